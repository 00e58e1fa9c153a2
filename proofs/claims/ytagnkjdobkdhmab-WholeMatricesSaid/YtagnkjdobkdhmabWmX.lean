/-
  The contexts of the statement WholeMatrices. Nothing here is trusted.
-/
import Derived.Test.YtagnkjdobkdhmabLWm
import Derived.Test.YtagnkjdobkdhmabWmSg0
import Derived.Test.YtagnkjdobkdhmabWmSg1
import Derived.Test.YtagnkjdobkdhmabWmSg2
import Derived.Test.YtagnkjdobkdhmabWmSg3
import Derived.Test.YtagnkjdobkdhmabWmSx0
import Derived.Test.YtagnkjdobkdhmabWmSx1
import Derived.Test.YtagnkjdobkdhmabWmSx2
import Derived.Test.YtagnkjdobkdhmabWmSx3
namespace Go.Proofs.Ytagnkjdobkdhmab
open Go Vx
theorem Vx.Cx.addR_both {C : Cx} {f g : FuncId} {F G : List Value → Option (Bool × Value)} (h1 : CxOk (C.addR f F)) (h2 : CxOk (C.addR g G)) : CxOk ((C.addR f F).addR g G) := by
  refine ⟨h1.mixed, ?_, h1.tbm, h1.inl, h1.lp⟩
  intro k args v hargs hv hp
  simp only [Cx.addR] at hv
  cases hg : Nat.beq k g with
  | true =>
    simp only [hg] at hv
    exact h2.tbl k args v hargs (by simp only [Cx.addR, hg]; exact hv) hp
  | false =>
    simp only [hg] at hv
    exact h1.tbl k args v hargs (by simp only [Cx.addR]; exact hv) hp
def FB (T : Int → M3) : List Value → Option (Bool × Value)
  | [.int .u8 k] => some (byteB k, (T k).v)
  | _ => none
theorem FB_spec {T : Int → M3} {args : List Value} {v : Value} (h : FB T args = some (true, v)) : ∃ k, args = [.int .u8 k] ∧ 0 ≤ k ∧ k < 256 ∧ v = (T k).v := by
  unfold FB at h
  split at h
  · rename_i k
    simp only [Option.some.injEq, Prod.mk.injEq] at h
    have hb : 0 ≤ k ∧ k < 256 := by have := h.1; unfold byteB at this; simpa using this
    exact ⟨k, rfl, hb.1, hb.2, h.2.symm⟩
  · cases h
theorem runsG (q : Nat) (h : q < 16) : runsA Try.prog Try.f34 34 q = valsA sgM q := by
  match q, h with
  | 0, _ => exact rSg0
  | 1, _ => exact rSg1
  | 2, _ => exact rSg2
  | 3, _ => exact rSg3
  | 4, _ => exact rSg4
  | 5, _ => exact rSg5
  | 6, _ => exact rSg6
  | 7, _ => exact rSg7
  | 8, _ => exact rSg8
  | 9, _ => exact rSg9
  | 10, _ => exact rSg10
  | 11, _ => exact rSg11
  | 12, _ => exact rSg12
  | 13, _ => exact rSg13
  | 14, _ => exact rSg14
  | 15, _ => exact rSg15
  | q + 16, h => exact absurd h (by omega)
theorem runsX (q : Nat) (h : q < 16) : runsA Try.prog Try.f35 35 q = valsA sxM q := by
  match q, h with
  | 0, _ => exact rSx0
  | 1, _ => exact rSx1
  | 2, _ => exact rSx2
  | 3, _ => exact rSx3
  | 4, _ => exact rSx4
  | 5, _ => exact rSx5
  | 6, _ => exact rSx6
  | 7, _ => exact rSx7
  | 8, _ => exact rSx8
  | 9, _ => exact rSx9
  | 10, _ => exact rSx10
  | 11, _ => exact rSx11
  | 12, _ => exact rSx12
  | 13, _ => exact rSx13
  | 14, _ => exact rSx14
  | 15, _ => exact rSx15
  | q + 16, h => exact absurd h (by omega)
theorem okSg : CxOk ((CCm Try.prog).addR 34 (FB sgM)) := by
  have := Cx.addR_ok (C := (CCm Try.prog).at 34) (okCm.at 34) (n := 60) (f := 34) (F := FB sgM) Try.func34 (by kernel_rfl) (Or.inl rfl) (fun args v h => by
    obtain ⟨k, rfl, h0, h1, rfl⟩ := FB_spec h
    exact of_runs runsG h0 h1)
  exact ⟨this.mixed, this.tbl, this.tbm, this.inl, this.lp⟩
theorem okSx : CxOk ((CCm Try.prog).addR 35 (FB sxM)) := by
  have := Cx.addR_ok (C := (CCm Try.prog).at 35) (okCm.at 35) (n := 60) (f := 35) (F := FB sxM) Try.func35 (by kernel_rfl) (Or.inl rfl) (fun args v h => by
    obtain ⟨k, rfl, h0, h1, rfl⟩ := FB_spec h
    exact of_runs runsX h0 h1)
  exact ⟨this.mixed, this.tbl, this.tbm, this.inl, this.lp⟩
def Cs (S X : Int → M3) (P : Program) : Cx := (((CCm P).addR 34 (FB S)).addR 35 (FB X)).addL 7 35 wmlS
theorem okCs : CxOk (Cs sgM sxM Try.prog) := Cx.addL_ok (Vx.Cx.addR_both okSg okSx) wmlX_eq fun _ _ _ _ h hr => wmlK h hr
end Go.Proofs.Ytagnkjdobkdhmab
