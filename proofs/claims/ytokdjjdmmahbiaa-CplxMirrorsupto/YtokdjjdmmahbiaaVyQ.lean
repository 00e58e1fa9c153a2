/-
  Functions of floats, complex numbers and plain values, told up to NaNs; they leave memory alone. Nothing here is trusted.
-/
import Derived.Test.YtokdjjdmmahbiaaVyK
import Derived.Test.YtokdjjdmmahbiaaVyN
namespace Go.Proofs.Ytokdjjdmmahbiaa.Vx
open Go Go.RowKit

/-! ## Values without addresses -/
/-! ## Calls that leave memory alone -/
def keepAll (W : World) : Keep := ⟨fun j => j < W.heap.size, fun j => j < W.heap.size, fun _ h => h⟩
theorem emp_rel (W : World) : MemRel W (keepAll W) (fun _ => none) [] W :=
  ⟨rfl, rfl, rfl, Nat.le_refl _, Nat.le_refl _, fun j hj => hj, fun j _ => rfl, fun b _ => rfl, fun b hb => (by cases hb), fun b p hp => (by cases hp), fun b p hp => (by cases hp), fun b p hp => (by cases hp), fun b p hp => (by cases hp), fun b c p q hp => (by cases hp), fun b c p q hp => (by cases hp)⟩
theorem MemSem.quiet {P : Program} {f : FuncId} {args : List Value} {v : Value} {m' : Mem} (h : MemSem P f args [] v m') (ha : ∀ x ∈ args, nad x = true) (hv : nad v = true) (m : Mem) : MemSem P f args m v m := by
  refine ⟨h.1, fun w0 keep r args' w hargs hm => ?_⟩
  refine (h.2 w (keepAll w) (fun _ => none) args' w (RL_mem (fun x hx y => R_nad (ha x hx)) hargs) (emp_rel w)).mono ?_
  rintro e w' ⟨v', r', rfl, h1, h2, _⟩
  exact ⟨v', r, rfl, R_nad hv h1, hm.later ⟨h2.os, h2.tape, h2.output, h2.size, fun k hk => h2.kept k hk⟩ h2.drawn, Ext.refl r⟩

/-- An argument: a float, a complex number, a plain value. -/
inductive FD where
  | n (k : FloatKind) (b : Nat)
  | c (k : FloatKind) (a b : Nat)
  | v (v : Value)
def dOf (x : Value) : Option FD := match fl? x with
  | some (k, b) => some (.n k b)
  | none => match cx? x with
    | some (k, a, b) => some (.c k a b)
    | none => match plain x with
      | true => some (.v x)
      | false => none
def dsOf : List Value → Option (List FD)
  | [] => some []
  | x :: xs => match dOf x with
    | some d => match dsOf xs with
      | some ds => some (d :: ds)
      | none => none
    | none => none
def valOf : FD → Value
  | .n k b => aF k b
  | .c k a b => aC k a b
  | .v v => v
theorem dOf_plain {x : Value} (hp : plain x = true) : nad x = true := by
  have e1 : ∀ v, plain1 v = true → nad1 v = true := fun v hv => by
    unfold plain1 at hv
    unfold nad1
    split at hv
    · exact allL_iff.2 fun x hx => plain0_nad0 (allL_iff.1 hv x hx)
    · rename_i hn
      split
      · exact absurd rfl (hn _)
      · exact plain0_nad0 hv
  unfold plain at hp
  unfold nad
  split at hp
  · exact allL_iff.2 fun x hx => e1 x (allL_iff.1 hp x hx)
  · rename_i hn
    split
    · exact absurd rfl (hn _)
    · exact e1 _ hp
theorem dOf_R {r : Ren} {x x' : Value} {d : FD} (h : dOf x = some d) (hr : R r x x') : R r (valOf d) x' ∧ nad (valOf d) = true := by
  unfold dOf at h
  split at h
  · rename_i k b hf
    simp only [Option.some.injEq] at h
    subst h
    exact ⟨R_fl hr hf, rfl⟩
  · split at h
    · rename_i k a b hf
      simp only [Option.some.injEq] at h
      subst h
      exact ⟨R_cx hr hf, rfl⟩
    · split at h
      · rename_i hp
        simp only [Option.some.injEq] at h
        subst h
        exact ⟨hr, dOf_plain hp⟩
      · cases h
theorem dsOf_R {r : Ren} : ∀ {xs xs' : List Value} {ds : List FD}, dsOf xs = some ds → RL (R r) xs xs' → RL (R r) (ds.map valOf) xs' ∧ ∀ x ∈ ds.map valOf, nad x = true
  | [], [], ds, h, _ => by
    simp only [dsOf, Option.some.injEq] at h
    subst h
    exact ⟨trivial, by simp⟩
  | x :: xs, x' :: xs', ds, h, hr => by
    simp only [dsOf] at h
    split at h
    · rename_i d hd
      split at h
      · rename_i ds' hds
        simp only [Option.some.injEq] at h
        subst h
        obtain ⟨h1, h2⟩ := dsOf_R hds hr.2
        obtain ⟨g1, g2⟩ := dOf_R hd hr.1
        refine ⟨⟨g1, h1⟩, fun y hy => ?_⟩
        rcases List.mem_cons.1 hy with rfl | hy
        · exact g2
        · exact h2 y hy
      · cases h
    · cases h
  | [], _ :: _, _, _, hr => hr.elim
  | _ :: _, [], _, _, hr => hr.elim

/-! ## The table -/
def pureF (F : List FD → Option (Ans Value)) (args : List Value) (m : Mem) : Option (Ans (Value × Mem)) := match dsOf args with
  | some ds => match F ds with
    | some a => some (a.bind fun v => match nad v with
      | true => .out (v, m)
      | false => .fail)
    | none => none
  | none => none
/-- A function of floats. -/
def Cx.addQ (C : Cx) (f : FuncId) (F : List FD → Option (Ans Value)) : Cx := C.putRd f 1 (pureF F)
theorem pureF_some {F : List FD → Option (Ans Value)} {args : List Value} {m : Mem} {ans : Ans (Value × Mem)} {v : Value} {m' : Mem} (h : pureF F args m = some ans) (hr : ans.res = some (v, m')) : m' = m ∧ nad v = true ∧ ∃ ds a, dsOf args = some ds ∧ F ds = some a ∧ a.res = some v ∧ ∀ m2, ∃ ans', pureF F args m2 = some ans' ∧ ans'.res = some (v, m2) := by
  unfold pureF at h ⊢
  split at h
  · rename_i ds hds
    split at h
    · rename_i a ha
      simp only [Option.some.injEq] at h
      subst h
      obtain ⟨u, h1, h2⟩ := Ans.bind_some hr
      split at h2
      · rename_i hn
        simp only [Ans.res, Option.some.injEq, Prod.mk.injEq] at h2
        obtain ⟨rfl, rfl⟩ := h2
        refine ⟨rfl, hn, ds, a, hds, ha, h1, fun m2 => ?_⟩
        refine ⟨_, rfl, ?_⟩
        rw [Ans.res_bind, h1]
        simp only [Option.bind_some, hn]
        rfl
      · simp [Ans.res] at h2
    · cases h
  · cases h
theorem Cx.addQ_ok {C : Cx} (hC : CxOk C) {f : FuncId} {F : List FD → Option (Ans Value)} (h : ∀ ds a v, F ds = some a → a.res = some v → ∃ m', MemSem C.P f (ds.map valOf) [] v m') : CxOk (C.addQ f F) := by
  refine Cx.putRd_ok hC (fun args m ans v m' ha hr => ?_) (fun _ args m ans v m' ha hr => ?_) (fun h => by cases h)
  · obtain ⟨rfl, hn, ds, a, h1, h2, h3, _⟩ := pureF_some ha hr
    obtain ⟨mm, hs⟩ := h ds a v h2 h3
    refine ⟨hs.1, fun w0 keep r args' w hargs hm => ?_⟩
    obtain ⟨g1, g2⟩ := dsOf_R h1 hargs
    exact (hs.quiet g2 hn m').2 w0 keep r args' w g1 hm
  · obtain ⟨rfl, _, _, _, _, _, _, h4⟩ := pureF_some ha hr
    exact ⟨rfl, fun q k _ => h4 _⟩
/-- What a function answers; what it leaves behind is told no more. -/
def exV (C : Cx) (n : Nat) (fn : Func) (args : List Value) : Option Value := ((exFunA C n fn args []).bind fun vm => Ans.out vm.1).res
theorem exV_sem {C : Cx} (hC : CxOk C) {n : Nat} {f : FuncId} {fn : Func} {args : List Value} {v : Value} (hf : C.P.funcs[f]? = some fn) (hok : (fn.name == "runtime.NumGoroutine") = false) (h : exV (C.at f) n fn args = some v) : ∃ m', MemSem C.P f args [] v m' := by
  unfold exV at h
  obtain ⟨⟨u, m'⟩, h1, h2⟩ := Ans.bind_some h
  simp only [Ans.res, Option.some.injEq] at h2
  subst h2
  exact ⟨m', exFunA_sem (C := C.at f) (hC.at f) hf hok (Or.inl rfl) h1⟩
/-- A function that is told of exact values, the same whatever the NaNs. -/
theorem exact_sem {P : Program} {f : FuncId} {args : List Value} {v : Value} (hf : fnOk P f) (hv : nad v = true) (h : ∀ (r : Ren) xs, RL (R r) args xs → (∀ x ∈ xs, plain x = true) ∧ ∃ m', MemSem P f xs [] v m') : MemSem P f args [] v [] := by
  refine ⟨hf, fun w0 keep r args' w hargs hm => ?_⟩
  obtain ⟨hp, m', hs⟩ := h r args' hargs
  have hn : ∀ x ∈ args', nad x = true := fun x hx => (dOf_plain (hp x hx))
  refine (hs.quiet hn hv []).2 w0 keep r args' w ?_ hm
  clear hargs hs hn h
  induction args' with
  | nil => trivial
  | cons x l ih => exact ⟨(R_plain (hp x (by simp))).2 rfl, ih fun y hy => hp y (by simp [hy])⟩
end Go.Proofs.Ytokdjjdmmahbiaa.Vx
