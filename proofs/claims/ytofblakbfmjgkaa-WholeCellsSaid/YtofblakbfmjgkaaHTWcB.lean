/-
  What the whole statement of cells draws from bytes: facettop.matrix, metric, small told. Nothing here is trusted.
-/
import Derived.Test.YtofblakbfmjgkaaHTWcA
namespace Go.Proofs.Ytofblakbfmjgkaa
open Go Vx
def v8 (k : Int) : Value := .int .i8 k
def vu8 (k : Int) : Value := .int .u8 k
def a9 (a b c d e f g h i : Int) : Value := .agg #[v8 a, v8 b, v8 c, v8 d, v8 e, v8 f, v8 g, v8 h, v8 i]
def u3 (a b c : Int) : Value := .agg #[vu8 a, vu8 b, vu8 c]
def w12 (k : Int) : Int := Int.tmod (W k) 12
def w11 (k : Int) : Int := W (W (Int.tmod k 11) - 5)
def w12M (a b c d e f g h i : Int) : M3 := ⟨w12 a, w12 b, w12 c, w12 d, w12 e, w12 f, w12 g, w12 h, w12 i⟩
theorem eMat (a b c d e f g h i : Int) : exFun ((CCwc Try.prog).at 104) 60 Try.f104 [a9 a b c d e f g h i] = some (w12M a b c d e f g h i).v := by kernel_rfl
theorem eSml (a b c : Int) : exFun ((CCwc Try.prog).at 56) 60 Try.f56 [u3 a b c] = some (V3.v ⟨w11 a, w11 b, w11 c⟩) := by kernel_rfl
def matF : List Value → Option (Bool × Value)
  | [.agg ⟨[.int .i8 a, .int .i8 b, .int .i8 c, .int .i8 d, .int .i8 e, .int .i8 f, .int .i8 g, .int .i8 h, .int .i8 i]⟩] => some (true, (w12M a b c d e f g h i).v)
  | _ => none
def smlF : List Value → Option (Bool × Value)
  | [.agg ⟨[.int .u8 a, .int .u8 b, .int .u8 c]⟩] => some (true, V3.v ⟨w11 a, w11 b, w11 c⟩)
  | _ => none
def Cwd1 (P : Program) : Cx := (CCwc P).addR 104 matF
theorem okwd1 : CxOk (Cwd1 Try.prog) := by
  have := Cx.addR_ok (C := (CCwc Try.prog).at 104) (okCwc.at 104) (f := 104) Try.func104 (by kernel_rfl) (Or.inl rfl) (n := 60) (F := matF) (fun args v h => by
    unfold matF at h
    split at h
    · simp only [Option.some.injEq, Prod.mk.injEq, true_and] at h
      subst h
      exact eMat _ _ _ _ _ _ _ _ _
    · cases h)
  exact ⟨this.mixed, this.tbl, this.tbm, this.keys, this.inl, this.lp, this.rd, this.rd2⟩
def Cwd2 (P : Program) : Cx := (Cwd1 P).addR 56 smlF
theorem eSml' (a b c : Int) : exFun ((Cwd1 Try.prog).at 56) 60 Try.f56 [u3 a b c] = some (V3.v ⟨w11 a, w11 b, w11 c⟩) := by kernel_rfl
theorem okwd2 : CxOk (Cwd2 Try.prog) := by
  have := Cx.addR_ok (C := (Cwd1 Try.prog).at 56) (okwd1.at 56) (f := 56) Try.func56 (by kernel_rfl) (Or.inl rfl) (n := 60) (F := smlF) (fun args v h => by
    unfold smlF at h
    split at h
    · simp only [Option.some.injEq, Prod.mk.injEq, true_and] at h
      subst h
      exact eSml' _ _ _
    · cases h)
  exact ⟨this.mixed, this.tbl, this.tbm, this.keys, this.inl, this.lp, this.rd, this.rd2⟩
/-- The metric of a matrix's columns, as run. -/
def gramW (b : M3) : G6 := ⟨W (b.a * b.a + b.d * b.d + b.g * b.g), W (b.b * b.b + b.e * b.e + b.h * b.h), W (b.c * b.c + b.f * b.f + b.i * b.i), W (b.b * b.c + b.e * b.f + b.h * b.i), W (b.a * b.c + b.d * b.f + b.g * b.i), W (b.a * b.b + b.d * b.e + b.g * b.h)⟩
def metT (m : M3) : Option Value := match m.ck == 0 with
  | true => some (p2 (gramW m).v (.bool ((bif m.ok then m.det else 0) != 0)))
  | false => some (p2 (gramW m).v (.bool false))
theorem eMet (a b c d e f g h i : Int) : exFun ((Cwd2 Try.prog).at 51) 60 Try.f51 [a9 a b c d e f g h i] = metT (w12M a b c d e f g h i) := by kernel_rfl
end Go.Proofs.Ytofblakbfmjgkaa
