/-
  The matrices of seeds told; seeds in memory. Nothing here is trusted.
-/
import Derived.Test.YtneaibkfglfpaaaHSeG0
import Derived.Test.YtneaibkfglfpaaaHSeG1
import Derived.Test.YtneaibkfglfpaaaHSeG2
import Derived.Test.YtneaibkfglfpaaaHSeG3
import Derived.Test.YtneaibkfglfpaaaHSeX0
import Derived.Test.YtneaibkfglfpaaaHSeX1
import Derived.Test.YtneaibkfglfpaaaHSeX2
import Derived.Test.YtneaibkfglfpaaaHSeX3
namespace Go.Proofs.Ytneaibkfglfpaaa
open Go Vx
def FB (T : Int → M3) : List Value → Option (Bool × Value)
  | [.int .u8 k] => some (byteB k, (T k).v)
  | _ => none
theorem FB_spec {T : Int → M3} {args : List Value} {v : Value} (h : FB T args = some (true, v)) : ∃ k, args = [.int .u8 k] ∧ 0 ≤ k ∧ k < 256 ∧ v = (T k).v := by
  unfold FB at h
  split at h
  · rename_i k
    simp only [Option.some.injEq, Prod.mk.injEq] at h
    have hb : 0 ≤ k ∧ k < 256 := by have := h.1; unfold byteB at this; simpa using this
    exact ⟨k, rfl, hb.1, hb.2, h.2.symm⟩
  · cases h
theorem seRunsG (q : Nat) (h : q < 16) : runsX Try.prog Try.f96 96 q = valsA sgM q := by
  match q, h with
  | 0, _ => exact rSeG0
  | 1, _ => exact rSeG1
  | 2, _ => exact rSeG2
  | 3, _ => exact rSeG3
  | 4, _ => exact rSeG4
  | 5, _ => exact rSeG5
  | 6, _ => exact rSeG6
  | 7, _ => exact rSeG7
  | 8, _ => exact rSeG8
  | 9, _ => exact rSeG9
  | 10, _ => exact rSeG10
  | 11, _ => exact rSeG11
  | 12, _ => exact rSeG12
  | 13, _ => exact rSeG13
  | 14, _ => exact rSeG14
  | 15, _ => exact rSeG15
  | q + 16, h => exact absurd h (by omega)
theorem seRunsX (q : Nat) (h : q < 16) : runsX Try.prog Try.f97 97 q = valsA sxM q := by
  match q, h with
  | 0, _ => exact rSeX0
  | 1, _ => exact rSeX1
  | 2, _ => exact rSeX2
  | 3, _ => exact rSeX3
  | 4, _ => exact rSeX4
  | 5, _ => exact rSeX5
  | 6, _ => exact rSeX6
  | 7, _ => exact rSeX7
  | 8, _ => exact rSeX8
  | 9, _ => exact rSeX9
  | 10, _ => exact rSeX10
  | 11, _ => exact rSeX11
  | 12, _ => exact rSeX12
  | 13, _ => exact rSeX13
  | 14, _ => exact rSeX14
  | 15, _ => exact rSeX15
  | q + 16, h => exact absurd h (by omega)
theorem okSg : CxOk ((Cst Try.prog).addR 96 (FB sgM)) := by
  have := Cx.addR_ok (C := (Cst Try.prog).at 96) (okst.at 96) (n := 60) (f := 96) (F := FB sgM) Try.func96 (by kernel_rfl) (Or.inl rfl) (fun args v h => by
    obtain ⟨k, rfl, h0, h1, rfl⟩ := FB_spec h
    exact of_runsX seRunsG h0 h1)
  exact ⟨this.mixed, this.tbl, this.tbm, this.keys, this.inl, this.lp, this.rd, this.rd2⟩
theorem okSx : CxOk ((Cst Try.prog).addR 97 (FB sxM)) := by
  have := Cx.addR_ok (C := (Cst Try.prog).at 97) (okst.at 97) (n := 60) (f := 97) (F := FB sxM) Try.func97 (by kernel_rfl) (Or.inl rfl) (fun args v h => by
    obtain ⟨k, rfl, h0, h1, rfl⟩ := FB_spec h
    exact of_runsX seRunsX h0 h1)
  exact ⟨this.mixed, this.tbl, this.tbm, this.keys, this.inl, this.lp, this.rd, this.rd2⟩
theorem addR_both {C : Cx} {f g : FuncId} {F G : List Value → Option (Bool × Value)} (h1 : CxOk (C.addR f F)) (h2 : CxOk (C.addR g G)) : CxOk ((C.addR f F).addR g G) := by
  refine ⟨h1.mixed, ?_, h1.tbm, h1.keys, h1.inl, h1.lp, h1.rd, h1.rd2⟩
  intro k args v hargs hv hp
  simp only [Cx.addR] at hv
  cases hg : Nat.beq k g with
  | true =>
    simp only [hg] at hv
    exact h2.tbl k args v hargs (by simp only [Cx.addR, hg]; exact hv) hp
  | false =>
    simp only [hg] at hv
    exact h1.tbl k args v hargs (by simp only [Cx.addR]; exact hv) hp
def Csm2 (P : Program) : Cx := ((Cst P).addR 96 (FB sgM)).addR 97 (FB sxM)
theorem oksm2 : CxOk (Csm2 Try.prog) := addR_both okSg okSx
structure Sd where
  (h : Bool) (k a b c s : Int)
def Sd.cells (d : Sd) : List Value := [.bool d.h, .int .u8 d.k, .int .u8 d.a, .int .u8 d.b, .int .u8 d.c, .int .u8 d.s]
def Sd.v (d : Sd) : Value := .agg #[.bool d.h, .int .u8 d.k, .int .u8 d.a, .int .u8 d.b, .int .u8 d.c, .int .u8 d.s]
def Sd.zero : Sd := ⟨false, 0, 0, 0, 0, 0⟩
def Sd.ok (d : Sd) : Bool := byteB d.k && (byteB d.a && (byteB d.b && (byteB d.c && byteB d.s)))
def sdCells : List Value → Option Sd
  | [.bool h, .int .u8 k, .int .u8 a, .int .u8 b, .int .u8 c, .int .u8 s] => some ⟨h, k, a, b, c, s⟩
  | _ => none
theorem sdCells_spec {l : List Value} {d : Sd} (h : sdCells l = some d) : l = d.cells := by
  unfold sdCells at h
  split at h
  · simp only [Option.some.injEq] at h
    subst h
    rfl
  · cases h
def stp (j : Nat) : Int := [12, 12, 8, 6, 4, 1].getD (j % 6) 1
def tq (a st : Int) : Int := Int.tmod (W (W a * st)) 24
def sdO (d : Sd) : O3 := ⟨bif d.h then sxM d.k else sgM d.k, ⟨tq d.a (stp d.s.toNat), tq d.b (stp d.s.toNat), tq d.c (stp d.s.toNat)⟩⟩
def sdR (d : Sd) (st : Int) : Option Value := gd (byteB d.k) (match d.h with
  | true => gd (byteB d.k) (some (⟨sxM d.k, ⟨tq d.a st, tq d.b st, tq d.c st⟩⟩ : O3).v)
  | false => some (⟨sgM d.k, ⟨tq d.a st, tq d.b st, tq d.c st⟩⟩ : O3).v)
def runsS (P : Program) (fn : Func) (q : Nat) (h : Bool) (k a b c : Int) : List (Option Value) := (List.range 16).map fun r => exFun ((Csm2 P).at 75) 60 fn [(⟨h, k, a, b, c, ((16 * q + r : Nat) : Int)⟩ : Sd).v]
def valsS (q : Nat) (h : Bool) (k a b c : Int) : List (Option Value) := (List.range 16).map fun r => sdR ⟨h, k, a, b, c, 0⟩ (stp (16 * q + r))
end Go.Proofs.Ytneaibkfglfpaaa
