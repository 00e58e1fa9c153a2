/-
  PROVED: for every two numbers, whatever their bits, facetlaw16.CplxQuarters answers true: times i is a quarter of a turn, exactly, by ==.
  No condition beyond the statement's own.
-/
import Derived.Test.YtokdjjdmmahbiaaTCx8
import Derived.WalkKit
import Derived.ProofKit
import Derived.OpenShut
import Derived.ShutString
import Derived.ChangeOld
import Derived.Below
namespace Go.Proofs.Ytokdjjdmmahbiaa
open Go Vx
open Go.ChangeShapes Go.WideShapes Go.ChangeAt Go.RowKit

theorem own : ownKnob Try.prog.godebug = none := by kernel_rfl
theorem laidOut : laidOutB Try.prog = true := by kernel_rfl

def QM (a b c d : Nat) : Nat × Nat := (fsub .f64 (fmul .f64 a c) (fmul .f64 b d), fadd .f64 (fmul .f64 a d) (fmul .f64 b c))
def QI (a b : Nat) : Nat × Nat := QM a b 0 4607182418800017408
def qsR (x y u v : Nat) : Option Value := match !(finF x && finF y) with
  | true => some (.bool true)
  | false => match !(finF u && finF v) with
    | true => some (.bool true)
    | false => match !(feq .f64 (QI x y).1 (fneg .f64 y) && feq .f64 (QI x y).2 x) with
      | true => some (.bool false)
      | false => match !(feq .f64 (QI (QI (QI (QI x y).1 (QI x y).2).1 (QI (QI x y).1 (QI x y).2).2).1 (QI (QI (QI x y).1 (QI x y).2).1 (QI (QI x y).1 (QI x y).2).2).2).1 x && feq .f64 (QI (QI (QI (QI x y).1 (QI x y).2).1 (QI (QI x y).1 (QI x y).2).2).1 (QI (QI (QI x y).1 (QI x y).2).1 (QI (QI x y).1 (QI x y).2).2).2).2 y) with
        | true => some (.bool false)
        | false => match !(finF (QM x y u v).1 && finF (QM x y u v).2) with
          | true => some (.bool true)
          | false => some (.bool (feq .f64 (QM (QI x y).1 (QI x y).2 u v).1 (fneg .f64 (QM x y u v).2) && feq .f64 (QM (QI x y).1 (QI x y).2 u v).2 (QM x y u v).1))
theorem cplxQuarters_run (a b c d : Int) : exFun ((CCf Try.prog).at 16) 80 Try.f16 [.agg (intsK .u64 [a, b]).toArray, .agg (intsK .u64 [c, d]).toArray] = qsR a.toNat b.toNat c.toNat d.toNat := by kernel_rfl
theorem QI_cls {x y : Nat} {n e m f : Int} (hx : cls x = .fin n e) (hy : cls y = .fin m f) : cls (QI x y).1 = .fin (-m) f ∧ cls (QI x y).2 = .fin n e := by
  have hny : cls (fneg .f64 y) = .fin (-m) f := by rw [cls_neg, hy]; rfl
  unfold QI QM
  simp only
  rw [cls_subA, cls_addA, cls_mulA, cls_mulA, cls_mulA, cls_mulA, hx, hy, cls_zero, cls_one, mul_zero, mul_zero, mul_one hx, mul_one hy]
  refine ⟨?_, add_zero hx⟩
  rw [addCl_comm]
  exact add_zero hny
theorem qs_true (x y u v : Nat) : qsR x y u v = some (.bool true) := by
  unfold qsR
  cases h1 : (finF x && finF y) with
  | false => rfl
  | true =>
    cases h2 : (finF u && finF v) with
    | false => rfl
    | true =>
      rw [Bool.and_eq_true] at h1 h2
      obtain ⟨n, e, hx⟩ := finF_cls h1.1
      obtain ⟨m, f, hy⟩ := finF_cls h1.2
      obtain ⟨t1, t2⟩ := QI_cls hx hy
      obtain ⟨u1, u2⟩ := QI_cls t1 t2
      obtain ⟨v1, v2⟩ := QI_cls u1 u2
      obtain ⟨w1, w2⟩ := QI_cls v1 v2
      have hny : cls (fneg .f64 y) = .fin (-m) f := by rw [cls_neg, hy]; rfl
      rw [Int.neg_neg] at w1 w2
      rw [feq_cls t1 hny, feq_cls t2 hx, feq_cls w1 hx, feq_cls w2 hy]
      simp only [Bool.and_self, Bool.not_true]
      cases h3 : (finF (QM x y u v).1 && finF (QM x y u v).2) with
      | false => rfl
      | true =>
        rw [Bool.and_eq_true] at h3
        obtain ⟨p1, p2, hp⟩ := finF_cls h3.1
        obtain ⟨q1, q2, hq⟩ := finF_cls h3.2
        have ep : cls (QM x y u v).1 = addCl (mulCl (cls x) (cls u)) (negC (mulCl (cls y) (cls v))) := by unfold QM; simp only; rw [cls_subA, cls_mulA, cls_mulA]
        have eq2 : cls (QM x y u v).2 = addCl (mulCl (cls x) (cls v)) (mulCl (cls y) (cls u)) := by unfold QM; simp only; rw [cls_addA, cls_mulA, cls_mulA]
        have en : Cl.fin (-m) f = negC (cls y) := by rw [hy]; rfl
        have eQ1 : cls (QM (QI x y).1 (QI x y).2 u v).1 = negC (cls (QM x y u v).2) := by
          rw [eq2]
          unfold QM
          simp only
          rw [cls_subA, cls_mulA, cls_mulA, t1, t2, en, ← hx, mulCl_negL, addCl_neg, addCl_comm]
        have eQ2 : cls (QM (QI x y).1 (QI x y).2 u v).2 = cls (QM x y u v).1 := by
          rw [ep]
          unfold QM
          simp only
          rw [cls_addA, cls_mulA, cls_mulA, t1, t2, en, ← hx, mulCl_negL, addCl_comm]
        have g1 : cls (fneg .f64 (QM x y u v).2) = .fin (-q1) q2 := by rw [cls_neg, hq]; rfl
        rw [feq_cls (eQ1.trans (by rw [hq]; rfl)) g1, feq_cls (eQ2.trans hp) hp]
        rfl
theorem cplxQuarters_law (l0 : List Int) (z0 : l0.length = 2) (_ : ∀ x ∈ l0, (Lit.int .u64 x).wf = true) (l1 : List Int) (z1 : l1.length = 2) (_ : ∀ x ∈ l1, (Lit.int .u64 x).wf = true) : exFun ((CCf Try.prog).at 16) 80 Try.f16 [.agg (intsK .u64 l0).toArray, .agg (intsK .u64 l1).toArray] = some (.bool true) := by
  match l0, z0, l1, z1 with
  | [a, b], _, [c, d], _ => rw [cplxQuarters_run]; exact qs_true _ _ _ _

theorem cplxQuarters_walk (l0 : List Int) (e0 : l0.length = 2) (u0 : ∀ x ∈ l0, (Lit.int .u64 x).wf = true) (l1 : List Int) (e1 : l1.length = 2) (u1 : ∀ x ∈ l1, (Lit.int .u64 x).wf = true) (w : World) : Calls Try.prog 16 #[.agg (intsK .u64 l0).toArray, .agg (intsK .u64 l1).toArray] w fun e w' => e = .returned (.bool true) ∧ Below w.heap.size w w' :=
  exFun_calls okCf Try.func16 (by kernel_rfl) (args := [.agg (intsK .u64 l0).toArray, .agg (intsK .u64 l1).toArray]) (by
    intro x hx
    simp only [List.mem_cons, List.not_mem_nil, or_false] at hx
    rcases hx with rfl | rfl <;> first | rfl | exact plain_ints _ _) (cplxQuarters_law l0 e0 u0 l1 e1 u1) w

set_option maxRecDepth 100000 in
theorem cplxQuarters_lifted (os : Os) (started : os.Started) (H : Type) (enc : TypeId × Value → H) :
    ReturnsInHanded {} Try.checked os 16 .any (Rows.cplxQuartersSpec.pre6 enc Try.prog Try.f16 Rows.cplxQuartersRow.domain false) (Rows.cplxQuartersSpec.post enc Try.prog Try.f16 false true false false) := by
  refine returnsInHanded_of_change (C := Try.checked) own started (by kernel_rfl) Try.func16
    (ChangeSpec.witness6 (enc := enc) (C := Try.checked) false ⟨#[], #[.agg #[.int .u64 0, .int .u64 0], .agg #[.int .u64 0, .int .u64 0]], []⟩ 8 (by kernel_rfl) (by kernel_rfl) (by kernel_rfl) (by kernel_rfl)) ?_
  intro W base args ds gs before hval0 hW _ _
  have hval : ∀ (j : Nat) t v, Try.f16.params[j]? = some t → args[j]? = some v → Value.okWide Try.prog W .any base t v := hval0
  have hW' := hW
  obtain ⟨p, q, hA0, hV, rfl, _, _⟩ := hW
  have hA : DataW.TrodAll enc Try.prog W 0 (fun _ => true) true Try.f16.params.toList args.toList ds p := hA0
  rw [Try.params16] at hA hval
  obtain ⟨v0, vs0, d0, ds0, p0, q0, hargs, rfl, rfl, h0, r0⟩ := trodAll_cons hA
  obtain ⟨v1, vs1, d1, ds1, p1, q1, rfl, rfl, rfl, h1, r1⟩ := trodAll_cons r0
  obtain ⟨rfl, rfl, rfl⟩ := trodAll_nil r1
  obtain rfl : args = #[v0, v1] := by cases args; simp_all
  obtain ⟨rfl, rfl⟩ := trodVars_none hV
  have lt0 : ∀ x ∈ p0, x.block < W.heap.size := by obtain ⟨m, hm⟩ := h0; exact DataW.trod_lt m _ _ _ hm
  obtain ⟨l0, e0, rfl, u0⟩ := open_rowK (n := 2) (k := .u64) (by kernel_rfl) (by kernel_rfl) (hval 0 65 v0 rfl rfl) h0
  have lt1 : ∀ x ∈ p1, x.block < W.heap.size := by obtain ⟨m, hm⟩ := h1; exact DataW.trod_lt m _ _ _ hm
  obtain ⟨l1, e1, rfl, u1⟩ := open_rowK (n := 2) (k := .u64) (by kernel_rfl) (by kernel_rfl) (hval 1 65 v1 rfl rfl) h1
  clear hA0 hval0
  refine (cplxQuarters_walk l0 e0 u0 l1 e1 u1 W).mono fun e W' ⟨he, bel⟩ => ?_
  subst he
  exact ⟨_, rfl, _, _, _, [], _, [], hW', trodAll_mk1 (shut_bool Try.underlying4 _), (trodAll_cons_mk (Below.trod laidOut (by kernel_rfl) (of_decide_eq_true (by kernel_rfl)) h0 bel lt0) (trodAll_cons_mk (Below.trod laidOut (by kernel_rfl) (of_decide_eq_true (by kernel_rfl)) h1 bel lt1) trodAll_mk0)), rfl, bel.frame _, fun h => by cases h⟩

theorem cplxQuarters_holds : Rows.CplxQuartersSaid :=
  OpenClaim.holds_of_wide 16 Try.f16 rfl rfl rfl rfl rfl rfl rfl ⟨rfl, rfl, rfl, rfl, rfl⟩ rfl rfl rfl rfl rfl (by kernel_rfl) Try.func16 (by kernel_rfl)
    (of_decide_eq_true (by kernel_rfl)) (by unfold Func.isWrapper; first | (rw [if_pos (by decide +kernel)]; kernel_rfl) | (rw [if_neg (by decide +kernel)]; exact ⟨rfl, rfl⟩))
    (fun os started H enc _ => cplxQuarters_lifted os started H enc)

end Go.Proofs.Ytokdjjdmmahbiaa
