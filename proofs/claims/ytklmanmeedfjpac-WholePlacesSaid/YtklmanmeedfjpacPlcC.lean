/-
  What the functions among and parts answer, whatever the world. Nothing here is trusted.
-/
import Derived.Test.YtklmanmeedfjpacRaw
import Derived.Test.YtklmanmeedfjpacFracCc
namespace Go.Proofs.Ytklmanmeedfjpac
open Go Vx

theorem eAmong (n m : Int) : exFun (CC Try.prog) 60 Try.f27 (pack [none, none] [n, m]) = mdO n m := by kernel_rfl
def CA (P : Program) : Cx := (CC P).addD 27 [none, none] FMod
theorem okA : CxOk (CA Try.prog) := Cx.addD_ok okC (n := 60) Try.func27 (by kernel_rfl) fun l v hl h => by
  match l, hl, h with
  | [n, m], _, hh => simp only [FMod, Option.some.injEq, Prod.mk.injEq] at hh; rw [eAmong, mdO_eq n m hh.1, hh.2]
/-- 24 shifted by k modulo 4. -/
def prt (k : Int) : Int := nth [24, 48, 96, 192] (k.toNat % 4)
def byteB (k : Int) : Bool := decide (0 ≤ k) && decide (k < 256)
def FParts : List Value → Option (Bool × Value)
  | [.int .u8 k] => some (byteB k, .int .i64 (prt k))
  | _ => none
theorem partsAll : allBelow (fun k => isI64 (exFun (CA Try.prog) 60 Try.f29 [.int .u8 (Int.ofNat k)]) (prt (Int.ofNat k))) 256 = true := by kernel_rfl
def CP (P : Program) : Cx := (CA P).addR 29 FParts
theorem okP : CxOk (CP Try.prog) := Cx.addR_ok okA (n := 60) Try.func29 (by kernel_rfl) fun args v h => by
  unfold FParts at h
  split at h
  · rename_i k
    simp only [Option.some.injEq, Prod.mk.injEq, byteB, Bool.and_eq_true, decide_eq_true_eq] at h
    obtain ⟨⟨h0, h1⟩, rfl⟩ := h
    have := isI64_spec (allBelow_spec partsAll k.toNat (by omega))
    rw [show Int.ofNat k.toNat = k from Int.toNat_of_nonneg h0] at this
    exact this
  · cases h
end Go.Proofs.Ytklmanmeedfjpac
