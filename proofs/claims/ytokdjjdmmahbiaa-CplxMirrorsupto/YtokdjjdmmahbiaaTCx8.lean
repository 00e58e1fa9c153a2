/-
  math.Abs, cplx.Finite. Nothing here is trusted.
-/
import Derived.Test.YtokdjjdmmahbiaaTCx1
import Derived.Test.YtokdjjdmmahbiaaFltC
namespace Go.Proofs.Ytokdjjdmmahbiaa
open Go Vx
/-- Without the sign. -/
def fabs (a : Nat) : Nat := a % 9223372036854775808
theorem fabs_bits (a : Nat) : (IntKind.u64.wrap ((BitVec.ofInt 64 (a : Int) &&& ~~~(BitVec.ofInt 64 9223372036854775808)).toNat : Nat)).toNat = fabs a := by
  have e1 : (BitVec.ofInt 64 (a : Int) &&& ~~~(BitVec.ofInt 64 9223372036854775808)).toNat = a % 9223372036854775808 := by
    have h : ~~~(BitVec.ofInt 64 9223372036854775808) = BitVec.ofNat 64 9223372036854775807 := by decide
    rw [h, BitVec.ofInt_natCast, BitVec.toNat_and, BitVec.toNat_ofNat, BitVec.toNat_ofNat]
    rw [show (9223372036854775807 % 2 ^ 64 : Nat) = 2 ^ 63 - 1 by decide, Nat.and_two_pow_sub_one_eq_mod]
    omega
  rw [e1]
  unfold fabs
  have : a % 9223372036854775808 < 9223372036854775808 := Nat.mod_lt _ (by decide)
  have hw : IntKind.u64.wrap ((a % 9223372036854775808 : Nat) : Int) = ((a % 9223372036854775808 : Nat) : Int) := by
    unfold IntKind.wrap
    simp [IntKind.bits, IntKind.signed]
    omega
  rw [hw]
  rfl
theorem fabs_nan {a : Nat} (h : isNaNb .f64 a = true) : isNaNb .f64 (fabs a) = true := by
  have := rung_isNaN h
  refine isNaN_rung ?_
  rw [show FloatKind.f64.format.signWeight = 9223372036854775808 from sw64] at this ⊢
  unfold fabs
  rw [Nat.mod_mod]
  exact this
theorem fabs_sim {a a' : Nat} (h : simF .f64 a a') : simF .f64 (fabs a) (fabs a') := by
  rcases h with rfl | ⟨h1, h2⟩
  · exact Or.inl rfl
  · exact Or.inr ⟨fabs_nan h1, fabs_nan h2⟩
theorem x87_run (a : Nat) : exV ((CCc Try.prog).at 87) 40 Try.f87 [.float .f64 a] = some (.float .f64 (IntKind.u64.wrap ((BitVec.ofInt 64 (a : Int) &&& ~~~(BitVec.ofInt 64 9223372036854775808)).toNat : Nat)).toNat) := by kernel_rfl
def Qc87 : List FD → Option (Ans Value)
  | [.n .f64 a] => some (.out (aF .f64 (fabs a)))
  | _ => none
def Cc87 (P : Program) : Cx := (CCc P).addQ 87 Qc87
theorem exact_semR {P : Program} {f : FuncId} {args : List Value} {v : Value} (hf : fnOk P f) (h : ∀ (r : Ren) xs, RL (R r) args xs → (∀ x ∈ xs, Vx.plain x = true) ∧ ∃ m' v', MemSem P f xs [] v' m' ∧ nad v' = true ∧ ∀ (r : Ren) u, R r v' u → R r v u) : MemSem P f args [] v [] := by
  refine ⟨hf, fun w0 keep r args' w hargs hm => ?_⟩
  obtain ⟨hp, m', v', hs, hn, hR⟩ := h r args' hargs
  refine ((hs.quiet (fun x hx => dOf_plain (hp x hx)) hn []).2 w0 keep r args' w ?_ hm).mono fun _ _ ⟨u, r', e, h1, h2⟩ => ⟨u, r', e, hR _ _ h1, h2⟩
  clear hargs hs h
  induction args' with
  | nil => trivial
  | cons x l ih => exact ⟨(R_plain (hp x (by simp))).2 rfl, ih fun y hy => hp y (by simp [hy])⟩
theorem okc87 : CxOk (Cc87 Try.prog) := Cx.addQ_ok okCc fun ds an v h hr => by
  unfold Qc87 at h
  split at h
  · rename_i a
    simp only [Option.some.injEq] at h
    subst h
    simp only [Ans.res, Option.some.injEq] at hr
    subst hr
    refine ⟨[], exact_semR (okFunc_spec (by kernel_rfl)) fun r xs hxs => ?_⟩
    match xs, hxs with
    | [x], hxs =>
      obtain ⟨a', rfl, ha⟩ := R_fl (k := .f64) (b := a) hxs.1 rfl
      refine ⟨fun x hx => ?_, ?_⟩
      · simp only [List.mem_cons, List.not_mem_nil, or_false] at hx
        subst hx
        rfl
      · have e := x87_run a'
        rw [fabs_bits] at e
        obtain ⟨m', hs⟩ := exV_sem okCc Try.func87 (okFunc_name (by kernel_rfl) Try.func87) e
        refine ⟨m', _, hs, rfl, fun r u hu => ?_⟩
        have hu' : u = .float .f64 (fabs a') := (R_plain (v := .float .f64 (fabs a')) rfl).1 hu
        subst hu'
        exact ⟨_, rfl, fabs_sim ha⟩
  · cases h
/-- Neither an infinity nor a NaN. -/
def finF (a : Nat) : Bool := !fgt .f64 (fabs a) 9218868437227405311 && feq .f64 a a
theorem qc122_run (a : Nat) : exV ((Cc87 Try.prog).at 122) 40 Try.f122 [aF .f64 a] = (match !fgt .f64 (fabs a) 9218868437227405311 with | true => some (.bool !(!feq .f64 a a)) | false => some (.bool false)) := by kernel_rfl
def Qc122 : List FD → Option (Ans Value)
  | [.n .f64 a] => some (.out (.bool (finF a)))
  | _ => none
def Cc122 (P : Program) : Cx := (Cc87 P).addQ 122 Qc122
theorem qc122_eq (a : Nat) : (match !fgt .f64 (fabs a) 9218868437227405311 with | true => some (.bool !(!feq .f64 a a)) | false => some (.bool false)) = ((.out (.bool (finF a)) : Ans Value)).res := by unfold finF; cases fgt .f64 (fabs a) 9218868437227405311 <;> simp [Ans.res]
theorem okc122 : CxOk (Cc122 Try.prog) := Cx.addQ_ok okc87 fun ds an v h hr => by
  unfold Qc122 at h
  split at h
  · rename_i a
    simp only [Option.some.injEq] at h
    subst h
    exact exV_sem okc87 Try.func122 (okFunc_name (by kernel_rfl) Try.func122) ((qc122_run a).trans ((qc122_eq a).trans hr))
  · cases h
theorem qc59_run (a b : Nat) : exV ((Cc122 Try.prog).at 59) 40 Try.f59 [aC .f64 a b] = (match finF a with | true => some (.bool (finF b)) | false => some (.bool false)) := by kernel_rfl
def Qc59 : List FD → Option (Ans Value)
  | [.c .f64 a b] => some (.out (.bool (finF a && finF b)))
  | _ => none
def Cc59 (P : Program) : Cx := (Cc122 P).addQ 59 Qc59
theorem qc59_eq (a b : Nat) : (match finF a with | true => some (.bool (finF b)) | false => some (.bool false)) = ((.out (.bool (finF a && finF b)) : Ans Value)).res := by cases finF a <;> rfl
theorem okc59 : CxOk (Cc59 Try.prog) := Cx.addQ_ok okc122 fun ds an v h hr => by
  unfold Qc59 at h
  split at h
  · rename_i a b
    simp only [Option.some.injEq] at h
    subst h
    exact exV_sem okc122 Try.func59 (okFunc_name (by kernel_rfl) Try.func59) ((qc59_run a b).trans ((qc59_eq a b).trans hr))
  · cases h
theorem finF_cls {a : Nat} (h : finF a = true) : ∃ n e, cls a = .fin n e := by
  unfold finF at h
  rw [Bool.and_eq_true] at h
  rcases Nat.lt_trichotomy (a % 9223372036854775808) 9218868437227405312 with h1 | h1 | h1
  · exact ⟨_, _, fin_cls h1⟩
  · exfalso
    have h2 := h.1
    rw [show fabs a = 9218868437227405312 from h1] at h2
    exact absurd h2 (by decide +kernel)
  · exfalso
    have h2 := h.2
    rw [feq_self, show isNaNb .f64 a = true from isNaN_rung (by rw [show FloatKind.f64.format.signWeight = 9223372036854775808 from sw64, show FloatKind.f64.format.infRung = 9218868437227405312 from ir64]; exact h1)] at h2
    cases h2
def CCf (P : Program) : Cx := Cc59 P
theorem okCf : CxOk (CCf Try.prog) := okc59
end Go.Proofs.Ytokdjjdmmahbiaa
