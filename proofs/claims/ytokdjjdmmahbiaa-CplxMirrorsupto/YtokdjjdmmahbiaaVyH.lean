/-
  Contracts of which one road alone is wanted. Nothing here is trusted.
-/
import Derived.Test.YtokdjjdmmahbiaaVyG
namespace Go.Proofs.Ytokdjjdmmahbiaa.Vx
open Go Go.RowKit
/-- One road of a tree; on the others nothing is told. -/
def pickA {α : Type} : List Bool → Ans α → Ans α
  | true :: p, .br b t _ => .br b (pickA p t) .fail
  | false :: p, .br b _ f => .br b .fail (pickA p f)
  | _, x => x
theorem pickA_ok {α : Type} {a : α} : ∀ (p : List Bool) (x : Ans α), (pickA p x).res = some a → x.res = some a
  | [], x, h => by cases x <;> exact h
  | true :: p, .br b t f, h => by
    rcases Ans.br_some h with ⟨hb, h1⟩ | ⟨hb, h1⟩
    · subst hb; exact pickA_ok p t h1
    · simp [Ans.res] at h1
  | false :: p, .br b t f, h => by
    rcases Ans.br_some h with ⟨hb, h1⟩ | ⟨hb, h1⟩
    · simp [Ans.res] at h1
    · subst hb; exact pickA_ok p f h1
  | true :: p, .out a, h => h
  | false :: p, .out a, h => h
  | true :: p, .fail, h => h
  | false :: p, .fail, h => h
/-- No error; yes. -/
def asm1 : Value → Bool × Value
  | .int k e => (e == 0, .int k 0)
  | .bool b => (b, .bool true)
  | v => (true, v)
def asmV : Value → Bool × Value
  | .tuple vs => match vs.toList with
    | [a, b] => ((asm1 b).1, .tuple #[a, (asm1 b).2])
    | [a, b, c] => ((asm1 c).1, .tuple #[a, b, (asm1 c).2])
    | _ => (true, .tuple vs)
  | v => asm1 v
theorem asm1_ok {v : Value} (h : (asm1 v).1 = true) : (asm1 v).2 = v := by
  cases v with
  | int k e => simp only [asm1] at h ⊢; rw [(beq_iff_eq.1 h)]
  | bool b => simp only [asm1] at h ⊢; rw [h]
  | _ => rfl
theorem asmV_ok {v : Value} (h : (asmV v).1 = true) : (asmV v).2 = v := by
  cases v with
  | tuple vs =>
    unfold asmV at h ⊢
    simp only at h ⊢
    split at h
    · rename_i a b he
      rw [asm1_ok h]
      congr 1
      rw [← he]
    · rename_i a b c he
      rw [asm1_ok h]
      congr 1
      rw [← he]
    · rfl
  | int k e => exact asm1_ok (v := .int k e) h
  | bool b => exact asm1_ok (v := .bool b) h
  | _ => rfl
def asmA (x : Ans (Value × Mem)) : Ans (Value × Mem) := x.bind fun vm => .br (asmV vm.1).1 (.out ((asmV vm.1).2, vm.2)) .fail
theorem asmA_ok {x : Ans (Value × Mem)} {v : Value} {m : Mem} (h : (asmA x).res = some (v, m)) : x.res = some (v, m) := by
  obtain ⟨⟨u, mu⟩, h1, h2⟩ := Ans.bind_some h
  rcases Ans.br_some h2 with ⟨hb, h3⟩ | ⟨_, h3⟩
  · simp only [Ans.res, Option.some.injEq, Prod.mk.injEq] at h3
    obtain ⟨rfl, rfl⟩ := h3
    rw [h1, asmV_ok hb]
  · simp [Ans.res] at h3
/-- A function of which one road is wanted, with no error; it is lent what it reads. -/
def Cx.good (C : Cx) (f : FuncId) (p : List Bool) : Cx := C.addM f (lendF fun args m => match C.tbm f args m with
  | some ans => some (asmA (pickA p ans))
  | none => none)
theorem Cx.good_ok {C : Cx} (hC : CxOk C) (f : FuncId) (p : List Bool) : CxOk (C.good f p) :=
  Cx.addM_ok hC fun _ _ _ _ _ ha hr => lendF_ok (fun args m ans v m' h hr => by
    split at h
    · rename_i a0 h0
      simp only [Option.some.injEq] at h
      subst h
      exact hC.tbm f args m a0 v m' h0 (pickA_ok p a0 (asmA_ok hr))
    · cases h) ha hr
/-- The same, with what it answers as it is. -/
def Cx.road (C : Cx) (f : FuncId) (p : List Bool) : Cx := C.addM f (lendF fun args m => match C.tbm f args m with
  | some ans => some (pickA p ans)
  | none => none)
theorem Cx.road_ok {C : Cx} (hC : CxOk C) (f : FuncId) (p : List Bool) : CxOk (C.road f p) :=
  Cx.addM_ok hC fun _ _ _ _ _ ha hr => lendF_ok (fun args m ans v m' h hr => by
    split at h
    · rename_i a0 h0
      simp only [Option.some.injEq] at h
      subst h
      exact hC.tbm f args m a0 v m' h0 (pickA_ok p a0 hr)
    · cases h) ha hr
/-- A function that only looks (1), or that makes something beside what is there (2). -/
def Cx.roadS (C : Cx) (f : FuncId) (p : List Bool) (args : List Value) (m : Mem) : Option (Ans (Value × Mem)) := match C.tbm f args m with
  | some ans => some (pickA p ans)
  | none => none
theorem Cx.roadS_ok {C : Cx} (hC : CxOk C) {f : FuncId} {p : List Bool} (args : List Value) (m : Mem) (ans : Ans (Value × Mem)) (v : Value) (m' : Mem) (h : C.roadS f p args m = some ans) (hr : ans.res = some (v, m')) : MemSem C.P f args m v m' := by
  unfold Cx.roadS at h
  split at h
  · rename_i a0 h0
    simp only [Option.some.injEq] at h
    subst h
    exact hC.tbm f args m a0 v m' h0 (pickA_ok p a0 hr)
  · cases h
def Cx.putRd (C : Cx) (f : FuncId) (z : Nat) (F : List Value → Mem → Option (Ans (Value × Mem))) : Cx := { C with
  tbm := fun g args m => match Nat.beq g f with
    | true => F args m
    | false => C.tbm g args m
  rd := fun g => match Nat.beq g f with
    | true => z
    | false => C.rd g
  inl := fun g => match Nat.beq g f with
    | true => none
    | false => C.inl g }
theorem Cx.putRd_ok {C : Cx} (hC : CxOk C) {f : FuncId} {z : Nat} {F : List Value → Mem → Option (Ans (Value × Mem))} (h0 : ∀ args m ans v m', F args m = some ans → ans.res = some (v, m') → MemSem C.P f args m v m')
    (h1 : z = 1 → ∀ args m ans v m', F args m = some ans → ans.res = some (v, m') → m' = m ∧ ∀ (q : Nat) k, m[q]? = some .no → ∃ ans', F args (m.set q k) = some ans' ∧ ans'.res = some (v, m.set q k))
    (h2 : z = 2 → ∀ args m ans v m', F args m = some ans → ans.res = some (v, m') → ∃ new, m' = m ++ new ∧ ∀ (q : Nat) k, noViewB k = true → m[q]? = some .no → ∃ ans', F args (m.set q k) = some ans' ∧ ans'.res = some (v, m.set q k ++ new)) : CxOk (C.putRd f z F) := by
  refine ⟨hC.mixed, hC.tbl, ?_, hC.keys, fun g fn hg => ?_, hC.lp, ?_, ?_, hC.ext⟩
  rotate_left
  · simp only [Cx.putRd] at hg
    cases hb : Nat.beq g f with
    | true => simp only [hb] at hg; cases hg
    | false => simp only [hb] at hg; exact hC.inl g fn hg
  rotate_right
  · intro g args m ans v m' ha hr
    simp only [Cx.putRd] at ha
    cases hg : Nat.beq g f with
    | false => simp only [hg] at ha; exact hC.tbm g args m ans v m' ha hr
    | true =>
      have hgf := Nat.eq_of_beq_eq_true hg
      subst hgf
      simp only [hg] at ha
      exact h0 args m ans v m' ha hr
  · intro g hg args m ans v m' ha hr
    simp only [Cx.putRd] at hg ha ⊢
    cases hb : Nat.beq g f with
    | false => simp only [hb] at hg ha ⊢; exact hC.rd g hg args m ans v m' ha hr
    | true => simp only [hb] at hg ha ⊢; exact h1 hg args m ans v m' ha hr
  · intro g hg args m ans v m' ha hr
    simp only [Cx.putRd] at hg ha ⊢
    cases hb : Nat.beq g f with
    | false => simp only [hb] at hg ha ⊢; exact hC.rd2 g hg args m ans v m' ha hr
    | true => simp only [hb] at hg ha ⊢; exact h2 hg args m ans v m' ha hr
def Cx.looks (C : Cx) (f : FuncId) (p : List Bool) : Cx := C.putRd f 1 (lendP (C.roadS f p))
theorem Cx.looks_ok {C : Cx} (hC : CxOk C) (f : FuncId) (p : List Bool) : CxOk (C.looks f p) :=
  Cx.putRd_ok hC (fun _ _ _ _ _ ha hr => lendP_ok (Cx.roadS_ok hC) ha hr) (fun _ _ _ _ _ _ ha hr => lendP_rd ha hr) (fun h => by cases h)
def Cx.makes (C : Cx) (f : FuncId) (p : List Bool) : Cx := C.putRd f 2 (lendG (C.roadS f p))
theorem Cx.makes_ok {C : Cx} (hC : CxOk C) (f : FuncId) (p : List Bool) : CxOk (C.makes f p) :=
  Cx.putRd_ok hC (fun _ _ _ _ _ ha hr => lendG_ok (Cx.roadS_ok hC) ha hr) (fun h => by cases h) (fun _ _ _ _ _ _ ha hr => lendG_new ha hr)
end Go.Proofs.Ytokdjjdmmahbiaa.Vx
