/-
  The least of three errors. Nothing here is trusted.
-/
import Derived.Test.YtjpfnfckpgilgaaGreatKaj
import Derived.Test.YtjpfnfckpgilgaaGreatHCelT
import Derived.Test.YtjpfnfckpgilgaaGreatHBasL
import Derived.Test.YtjpfnfckpgilgaaGreatKak
import Derived.Test.YtjpfnfckpgilgaaGreatHScanL
namespace Go.Proofs.YtjpfnfckpgilgaaGreat
open Go Vx Go.RowKit
def lk (k : Nat) : Bool := Nat.ble (0 + k) k && true
theorem lk_true (k : Nat) : lk k = true := by unfold lk; simp [Nat.ble_eq]
def leastM3 (a b c : Int) : Mem := [.cells true 1 [.int .i64 a, .int .i64 b, .int .i64 c]]
def leastA3 : List Value := [.slice (some ⟨0, 0, none⟩) 3 1]
def lst1 {α : Type} (x c : Int) (k : Int → Option α) : Option α := match x == 0 with
  | true => k c
  | false => match c != 0 with
    | true => match decide (c < x) with
      | true => k c
      | false => k x
    | false => k x
theorem lst1_eq {α : Type} (x c : Int) (k : Int → Option α) : lst1 x c k = k (leastN x c) := by
  unfold lst1 leastN
  cases x == 0 <;> cases c != 0 <;> cases decide (c < x) <;> rfl
theorem eLeast3 (a b c : Int) : (exFunA ((CC Tryz.prog).at 58) 60 Tryz.f58 leastA3 (leastM3 a b c)).res = lst1 a b (fun x => lst1 x c (fun y => some (vI y, leastM3 a b c))) := by kernel_rfl
def leastS3 : List Value → Mem → Option (Ans (Value × Mem))
  | [.slice (some ⟨0, 0, none⟩) 2 1], [.cells true 1 [.int .i64 a, .int .i64 b]] => leastS [.slice (some ⟨0, 0, none⟩) 2 1] [.cells true 1 [.int .i64 a, .int .i64 b]]
  | [.slice (some ⟨0, 0, none⟩) 3 1], [.cells true 1 [.int .i64 a, .int .i64 b, .int .i64 c]] => some (.out (vI (leastN3 a b c), leastM3 a b c))
  | _, _ => none
def Vx.tPDotN (m : G6) (u v : V3) : Option Value := some (vI (dotR u.x u.y u.z (dotR m.aa m.ab m.ac v.x v.y v.z) (dotR m.ab m.bb m.bc v.x v.y v.z) (dotR m.ac m.bc m.cc v.x v.y v.z)))
theorem Vx.tPDotN_eq (m : G6) (u v : V3) : tPDotN m u v = some (fPDot m u v) := by
  unfold tPDotN fPDot
  rw [dotR_W, dotR_W, dotR_W, dotR_W, W_cadd (W_cadd (W_mulr _ _) (W_mulr _ _)) (W_mulr _ _)]
  congr 3
  unfold G6.dot
  grind
def Clw (P : Program) : Cx := ((Cdk P).lend 59).addF 58 leastS3
theorem oklw : CxOk (Clw Tryz.prog) := Cx.addF_ok (Cx.lend_ok okdk _) fun args m ans v m' h hr => by
  unfold leastS3 at h
  split at h
  · rename_i a b
    simp only [leastS, Option.some.injEq] at h
    subst h
    simp only [Ans.res, Option.some.injEq, Prod.mk.injEq] at hr
    obtain ⟨rfl, rfl⟩ := hr
    exact exFunA_ok (n := 60) okC Tryz.func58 (by kernel_rfl) (eLeast' a b)
  · rename_i a b c
    simp only [Option.some.injEq] at h
    subst h
    simp only [Ans.res, Option.some.injEq, Prod.mk.injEq] at hr
    obtain ⟨rfl, rfl⟩ := hr
    exact exFunA_ok (n := 60) okC Tryz.func58 (by kernel_rfl) ((eLeast3 a b c).trans ((lst1_eq _ _ _).trans (lst1_eq _ _ _)))
  · cases h
end Go.Proofs.YtjpfnfckpgilgaaGreat
