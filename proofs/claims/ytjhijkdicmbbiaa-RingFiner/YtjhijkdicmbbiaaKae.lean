/-
  The executor is sound: code, calls, loops, tables. Nothing here is trusted.
-/
import Derived.Test.YtjhijkdicmbbiaaKad
import Derived.LoopN
import Derived.OpenShut
import Derived.Carry
import Derived.ChangeOld

namespace Go.Proofs.Ytjhijkdicmbbiaa.Vx
open Go Go.RowKit

/-- Inside a loop, ahead of its body. -/
def LoopsTo (P : Program) (c : Code) (Q : Exit → Act → World → Prop) (a : Act) (w : World) : Prop :=
  ∀ (b : Frame) (k : List Item) (cs : List Frame), ∃ e a' w', Q e a' w' ∧ Arrives P (lone (b.at a (.code c :: .inLoop c :: k)) cs w) b k cs e a' w'
theorem LoopsTo.wp {P : Program} {c : Code} {Q : Exit → Act → World → Prop} {a : Act} {w : World} (h : LoopsTo P c Q a w) : (Code.loop c).wp P Q a w := fun b k cs => by
  obtain ⟨e, a', w', hq, harr⟩ := h b k cs
  exact ⟨e, a', w', hq, .of_steps (.one step_loop) harr⟩
theorem LoopsTo.round {P : Program} {c : Code} {Q : Exit → Act → World → Prop} {a : Act} {w : World} (h : c.wp P (Exit.then (LoopsTo P c Q) Q) a w) : LoopsTo P c Q a w := fun b k cs => by
  obtain ⟨e, a₁, w₁, hq, harr⟩ := h b (.inLoop c :: k) cs
  cases e with
  | normal =>
    obtain ⟨e₂, a₂, w₂, hq₂, harr₂⟩ := hq b k cs
    exact ⟨e₂, a₂, w₂, hq₂, .of_steps (Steps.trans harr (.one step_inLoop)) harr₂⟩
  | exit id => exact ⟨_, a₁, w₁, hq, .pass (x := .inLoop c) rfl (fun _ _ => .inl (by simp)) harr⟩
  | goto l => exact ⟨_, a₁, w₁, hq, .pass (x := .inLoop c) rfl (fun _ _ => .inl (by simp)) harr⟩
  | ret => exact ⟨_, a₁, w₁, hq, .pass (x := .inLoop c) rfl (fun _ _ => .inl (by simp)) harr⟩
  | panic ch => exact ⟨_, a₁, w₁, hq, .pass (x := .inLoop c) rfl (fun _ _ => .inl (by simp)) harr⟩
  | outgrown => exact ⟨_, a₁, w₁, hq, .pass (x := .inLoop c) rfl (fun _ _ => .inl (by simp)) harr⟩

/-- What a loop comes to, in a function that was entered with at most B blocks. -/
def LoopSem (P : Program) (B : Nat) (x : Code) (st : St) (e : Exit) (s : St) : Prop :=
  ∀ (Q : Exit → Act → World → Prop) (w0 : World) (keep : Keep) (r0 : Ren) (a : Act) (w : World), (∀ b, B ≤ b → r0 b = none) → (∀ a w, Rel w0 keep r0 s a w → Q e a w) → Rel w0 keep r0 st a w → LoopsTo P x Q a w
/-- What code comes to. -/
def CodeSem (P : Program) (B : Nat) (c : Code) (st : St) (e : Exit) (s : St) : Prop :=
  ∀ (Q : Exit → Act → World → Prop) (w0 : World) (keep : Keep) (r0 : Ren) (a : Act) (w : World), (∀ b, B ≤ b → r0 b = none) → (∀ a w, Rel w0 keep r0 s a w → Q e a w) → Rel w0 keep r0 st a w → c.wp P Q a w

/-- What a table's functions and loops, and the functions that are walked into, must be. -/
structure CxOk (C : Cx) : Prop where
  mixed : C.P.follows .mixedOrders = true
  tbl : ∀ f args v, (∀ x ∈ args, plain x = true) → C.tbl f args = some (true, v) → plain v = true → PlainSem C.P f args v
  tbm : ∀ f args m ans v m', C.tbm f args m = some ans → ans.res = some (v, m') → MemSem C.P f args m v m'
  keys : ∀ kt n, C.keys kt = some n → KeyOk C.P kt n
  inl : ∀ f fn, C.inl f = some fn → C.P.funcs[f]? = some fn ∧ (fn.name == "runtime.NumGoroutine") = false
  lp : ∀ f fn b, C.P.funcs[f]? = some fn → fn.body = some b → ∀ x ∈ loopsIn b, ∀ B st ans e s, C.lp f (loopKey x) B st = some ans → ans.res = some (e, s) → LoopSem C.P B x st e s
  rd : ∀ f, C.rd f = 1 → ∀ args m ans v m', C.tbm f args m = some ans → ans.res = some (v, m') → m' = m ∧ ∀ (q : Nat) k, m[q]? = some .no → ∃ ans', C.tbm f args (m.set q k) = some ans' ∧ ans'.res = some (v, m.set q k)
  rd2 : ∀ f, C.rd f = 2 → ∀ args m ans v m', C.tbm f args m = some ans → ans.res = some (v, m') → ∃ new, m' = m ++ new ∧ ∀ (q : Nat) k, noViewB k = true → m[q]? = some .no → ∃ ans', C.tbm f args (m.set q k) = some ans' ∧ ans'.res = some (v, m.set q k ++ new)
  ext : ExtOk C.P C.ext
theorem CxOk.at {C : Cx} (h : CxOk C) (f : FuncId) : CxOk (C.at f) := ⟨h.mixed, h.tbl, h.tbm, h.keys, h.inl, h.lp, h.rd, h.rd2, h.ext⟩
theorem CxOk.into {C : Cx} (h : CxOk C) (f : FuncId) (n : Nat) : CxOk (C.into f n) := ⟨h.mixed, h.tbl, h.tbm, h.keys, h.inl, h.lp, h.rd, h.rd2, h.ext⟩

/-- The loops of a piece of code are those of the function that is walked through, or none of that function's is told. -/
def InBody (C : Cx) (c : Code) : Prop := (∃ fn b, C.P.funcs[C.cur]? = some fn ∧ fn.body = some b ∧ ∀ x ∈ loopsIn c, x ∈ loopsIn b) ∨ ∀ k n st, C.lp C.cur k n st = none
theorem InBody.sub {C : Cx} {c d : Code} (h : InBody C c) (hs : ∀ x ∈ loopsIn d, x ∈ loopsIn c) : InBody C d := by
  rcases h with ⟨fn, b, h1, h2, h3⟩ | h
  · exact Or.inl ⟨fn, b, h1, h2, fun x hx => h3 x (hs x hx)⟩
  · exact Or.inr h

def resSem (tmps : Array Value) : ResultVar → Sem Value
  | .tmp t => pure (tmps.getD t undef)
  | .cell b t => do loadVar t (← asAddr (tmps.getD b undef))
theorem resOf_run {P : Program} {w0 : World} {keep : Keep} {r : Ren} {st : St} {a : Act} {w : World} (hr : RelAt w0 keep r st a w) {x : ResultVar} {v : Value} (h : resOf st P x = some v) : ∃ v', (resSem a.tmps x).run P w = .ok v' w ∧ R r v v' := by
  cases x with
  | tmp t =>
    simp only [resOf, Option.some.injEq] at h
    subst h
    exact ⟨_, rfl, eval_R hr (.tmp t)⟩
  | cell b t =>
    simp only [resOf] at h
    split at h
    · rename_i q hq
      split at h
      · rename_i k hk
        have hx := eval_R hr (.tmp b)
        rw [hq] at hx
        obtain ⟨q', hq', hl⟩ := R_ptr hx
        obtain ⟨p, hp, rfl, hh, hkr⟩ := live_of (tm := st.tmps) (m := st.mem) hr hk hl (loadB_gone h)
        obtain ⟨v', g1, g2⟩ := load_run hkr h hh
        refine ⟨v', ?_, g2⟩
        have hq2 : a.tmps.getD b undef = .pointer (some (p.addr q)) := hq'
        simp only [resSem, hq2, asAddr, Sem.run_bind, Sem.run_pure, Result.andThen_ok, g1]
      · cases h
    · cases h
theorem results_eq (fn : Func) (tmps : Array Value) : results fn tmps = (do let vs ← fn.results.mapM (resSem tmps); pure (if h : vs.size = 1 then vs[0] else .tuple vs)) := by
  unfold results
  have : (fun x => (match x with
      | .tmp t => pure (tmps.getD t undef)
      | .cell b t => do loadVar t (← asAddr (tmps.getD b undef)) : Sem Value)) = resSem tmps := by funext x; cases x <;> rfl
  rw [← this]
  rfl
theorem results_run {P : Program} {w0 : World} {keep : Keep} {r : Ren} {st : St} {a : Act} {w : World} (hr : RelAt w0 keep r st a w) {fn : Func} {v : Value} (h : resV P fn st = some v) (hnt : ∀ vs, resAll P st fn.results.toList = some vs → ∀ x ∈ vs, ∀ ws, x ≠ .tuple ws) : ∃ v', (results fn a.tmps).run P w = .ok v' w ∧ R r v v' := by
  have hall : ∀ (l : List ResultVar) (vs : List Value), resAll P st l = some vs → ∃ vs', (l.mapM (resSem a.tmps)).run P w = .ok vs' w ∧ RL (R r) vs vs' := by
    intro l
    induction l with
    | nil => intro vs hv; simp [resAll] at hv; subst hv; exact ⟨[], rfl, trivial⟩
    | cons x l ih =>
      intro vs hv
      simp only [resAll] at hv
      cases hx : resOf st P x with
      | none => simp [hx] at hv
      | some u =>
        simp only [hx] at hv
        cases hl : resAll P st l with
        | none => simp [hl] at hv
        | some us =>
          simp only [hl, Option.some.injEq] at hv
          subst hv
          obtain ⟨u', h1, h2⟩ := resOf_run hr hx
          obtain ⟨us', h3, h4⟩ := ih us hl
          refine ⟨u' :: us', ?_, h2, h4⟩
          rw [List.mapM_cons]
          simp only [Sem.run_bind, h1, Result.andThen_ok, h3, Sem.run_pure]
  unfold resV at h
  cases hv : resAll P st fn.results.toList with
  | none => simp [hv] at h
  | some vs =>
    obtain ⟨vs', hm, hrl⟩ := hall _ vs hv
    rw [hv] at h
    have hnt' := hnt vs hv
    have key : (results fn a.tmps).run P w = .ok (if h : vs'.toArray.size = 1 then vs'.toArray[0] else .tuple vs'.toArray) w := by
      rw [results_eq]
      simp only [Array.mapM_eq_mapM_toList, Sem.run_bind]
      rw [map_eq_pure_bind]
      simp only [Sem.run_bind, hm, Result.andThen_ok, Sem.run_pure]
    match vs, vs', h, hrl, hnt', key with
    | [], [], h, _, _, key => simp at h; subst h; exact ⟨_, key, ⟨#[], rfl, trivial⟩⟩
    | [u], [u'], h, hrl, _, key => simp at h; subst h; exact ⟨_, key, hrl.1⟩
    | u :: u2 :: us, u' :: u2' :: us', h, hrl, hnt', key =>
      simp only [Option.some.injEq] at h
      subst h
      refine ⟨_, key, ?_⟩
      have : ¬ (u' :: u2' :: us').toArray.size = 1 := by simp
      rw [dif_neg this]
      refine ⟨_, rfl, ?_⟩
      have conv : ∀ (l l' : List Value), RL (R r) l l' → (∀ x ∈ l, ∀ ws, x ≠ .tuple ws) → RL (R1 r) l l' := by
        intro l
        induction l with
        | nil => intro l' h _; cases l' with
          | nil => trivial
          | cons y l' => exact h.elim
        | cons x l ih => intro l' h hn; cases l' with
          | nil => exact h.elim
          | cons y l' => exact ⟨(R1_R (hn x (by simp))).1 h.1, ih l' h.2 fun z hz => hn z (by simp [hz])⟩
      exact conv _ _ hrl hnt'
    | [], _ :: _, _, h, _, _ => exact h.elim
    | [_], [], _, h, _, _ => exact h.elim
    | [_], _ :: _ :: _, _, h, _, _ => exact h.2.elim
    | _ :: _ :: _, [], _, h, _, _ => exact h.elim
    | _ :: _ :: _, [_], _, h, _, _ => exact h.2.elim

theorem RL_const (r : Ren) : ∀ (n : Nat), RL (R r) (List.replicate n undef) (List.replicate n undef)
  | 0 => trivial
  | n + 1 => ⟨R_undef r, RL_const r n⟩
theorem enter_rel {fn : Func} {args args' : List Value} {m : Mem} {w0 : World} {keep : Keep} {r : Ren} {w : World} (ha : RL (R r) args args') (hm : MemRel w0 keep r m w) : RelAt w0 keep r (enter fn args m) { tmps := args'.toArray ++ Array.replicate (fn.ntmps - args'.toArray.size) undef, defers := [] } w := by
  refine ⟨rfl, ?_, hm⟩
  simp only [enter, Array.toList_append, List.size_toArray, Array.toList_replicate]
  rw [← ha.length]
  exact RL.append ha (RL_const r _)

theorem noTup_iff : ∀ {l : List Value}, noTup l = true → ∀ x ∈ l, ∀ ws, x ≠ .tuple ws
  | [], _, x, hx, _ => by cases hx
  | y :: l, h, x, hx, ws => by
    rcases List.mem_cons.1 hx with rfl | hx
    · rintro rfl; simp [noTup] at h
    · refine noTup_iff ?_ x hx ws
      cases y <;> first | exact h | (simp [noTup] at h)
theorem retA_spec {P : Program} {fn : Func} {e : Exit} {s : St} {v : Value} {m' : Mem} (h : (retA P fn (e, s)).res = some (v, m')) : (e = .normal ∨ e = .ret) ∧ resV P fn s = some v ∧ m' = s.mem ∧ ∀ vs, resAll P s fn.results.toList = some vs → ∀ x ∈ vs, ∀ ws, x ≠ .tuple ws := by
  unfold retA at h
  simp only at h
  have key : (match resAll P s fn.results.toList with
      | some vs => match noTup vs with
        | true => match resV P fn s with
          | some v => Ans.out (v, s.mem)
          | none => .fail
        | false => .fail
      | none => .fail).res = some (v, m') → resV P fn s = some v ∧ m' = s.mem ∧ ∀ vs, resAll P s fn.results.toList = some vs → ∀ x ∈ vs, ∀ ws, x ≠ .tuple ws := by
    intro h
    cases hv : resAll P s fn.results.toList with
    | none => simp [hv, Ans.res] at h
    | some vs =>
      simp only [hv] at h
      split at h
      · rename_i hn
        split at h
        · rename_i u hu
          simp only [Ans.res, Option.some.injEq, Prod.mk.injEq] at h
          refine ⟨by rw [hu, h.1], h.2.symm, fun vs' hvs => ?_⟩
          simp only [Option.some.injEq] at hvs
          subst hvs
          exact noTup_iff hn
        · simp [Ans.res] at h
      · simp [Ans.res] at h
  cases e with
  | normal => exact ⟨Or.inl rfl, key h⟩
  | ret => exact ⟨Or.inr rfl, key h⟩
  | _ => simp [Ans.res] at h
/-- A body that comes to a return is a call. -/
theorem body_mem {P : Program} {f : FuncId} {fn : Func} {b : Code} {args : List Value} {m m' : Mem} {v : Value} {e : Exit} {s : St} (hf : P.funcs[f]? = some fn) (hb : fn.body = some b) (hn : (fn.name == "runtime.NumGoroutine") = false) (hsem : CodeSem P m.length b (enter fn args m) e s) (hret : (retA P fn (e, s)).res = some (v, m')) : MemSem P f args m v m' := by
  obtain ⟨he, hres, rfl, hnt⟩ := retA_spec hret
  refine ⟨⟨fn, hf, hn, by rw [hb]; rfl⟩, fun w0 keep r args' w ha hm => ?_⟩
  refine calls_of_wp hf hb ?_
  refine hsem _ w0 keep r _ w (fun b hb => hm.none b (Or.inl (List.getElem?_eq_none hb))) ?_ ⟨r, Ext.refl r, enter_rel ha hm⟩
  intro a' w' ⟨r', hx, hr'⟩
  obtain ⟨v', h1, h2⟩ := results_run hr' hres hnt
  rcases he with rfl | rfl
  · exact ⟨hr'.1, v', h1, v', r', rfl, h2, hr'.2.2, hx⟩
  · exact ⟨hr'.1, v', h1, v', r', rfl, h2, hr'.2.2, hx⟩
def noRen : Ren := fun _ => none
theorem start_rel (w : World) : MemRel w ⟨fun j => j < w.heap.size, fun j => j < w.heap.size, fun _ h => h⟩ noRen [] w :=
  ⟨rfl, rfl, rfl, Nat.le_refl _, Nat.le_refl _, fun _ h => h, fun _ _ => rfl, fun _ _ => rfl, fun b h => by simp [noRen] at h, fun b p h => by simp [noRen] at h, fun b p h => by simp [noRen] at h, fun b p h => by simp [noRen] at h, fun b p h => by simp [noRen] at h, fun b c p q h => by simp [noRen] at h, fun b c p q h => by simp [noRen] at h⟩
theorem RL_plain {r : Ren} : ∀ {l : List Value}, (∀ x ∈ l, plain x = true) → RL (R r) l l
  | [], _ => trivial
  | x :: l, h => ⟨(R_plain (h x (by simp))).2 rfl, RL_plain fun y hy => h y (by simp [hy])⟩
/-- A call that starts with no memory and answers none. -/
theorem MemSem.plain {P : Program} {f : FuncId} {args : List Value} {m' : Mem} {v : Value} (h : MemSem P f args [] v m') (ha : ∀ x ∈ args, plain x = true) (hv : plain v = true) : PlainSem P f args v := by
  refine ⟨h.1, fun w => ?_⟩
  refine (h.2 w _ noRen args w (RL_plain ha) (start_rel w)).mono ?_
  rintro e w' ⟨v', r', rfl, h1, h2, h3⟩
  rw [(R_plain hv).1 h1]
  exact ⟨rfl, ⟨h2.os, h2.tape, h2.output, h2.size, fun k hk => h2.kept k hk⟩, h2.drawn⟩

def Sound (C : Cx) (n : Nat) : Prop := ∀ f B c, InBody (C.into f B) c → ∀ st e s, (exCode n (C.into f B) c st).res = some (e, s) → CodeSem C.P B c st e s
def SoundLoop (C : Cx) (n : Nat) : Prop := ∀ f B x, InBody (C.into f B) (.loop x) → ∀ st e s, (exCode n (C.into f B) (.loop x) st).res = some (e, s) → LoopSem C.P B x st e s

theorem callsOf_ok {C : Cx} (hC : CxOk C) {n : Nat} (ih : Sound C n) (g : FuncId) (B : Nat) : CallOk C.P (callsOf (C.into g B) (exCode n)) := by
  have inner : ∀ f fn b args m v m', C.inl f = some fn → fn.body = some b → ((exCode n (C.into f m.length) b (enter fn args m)).bind (retA C.P fn)).res = some (v, m') → MemSem C.P f args m v m' := by
    intro f fn b args m v m' hfn hb h
    obtain ⟨⟨e, s⟩, h1, h2⟩ := Ans.bind_some h
    obtain ⟨g1, g2⟩ := hC.inl f fn hfn
    exact body_mem g1 hb g2 (ih f m.length b (Or.inl ⟨fn, b, g1, hb, fun x hx => hx⟩) _ _ _ h1) h2
  have noInl : ∀ {f z : Nat}, C.rdOf f = z + 1 → C.rd f = z + 1 ∧ ∀ args m, (callsOf (C.into g B) (exCode n)).mm f args m = match C.tbm f args m with
      | some a => a
      | none => .fail := fun {f z} hf => by
    unfold Cx.rdOf at hf
    cases hi : C.inl f with
    | some fn => rw [hi] at hf; cases hf
    | none =>
      rw [hi] at hf
      refine ⟨hf, fun args m => ?_⟩
      cases ht : C.tbm f args m with
      | some a => simp only [callsOf, Cx.into, ht]
      | none => simp only [callsOf, Cx.into, ht, hi]
  refine ⟨fun f args v hargs h hv => ?_, fun f args m v m' h => ?_, hC.keys, ⟨fun f hf args m v m' h => ?_, fun f hf args m v m' h => ?_⟩, hC.ext⟩
  · simp only [callsOf] at h
    split at h
    · rename_i d u htbl
      rcases Ans.br_some h with ⟨rfl, h⟩ | ⟨rfl, h⟩
      · simp only [Ans.res, Option.some.injEq] at h
        subst h
        exact hC.tbl f args _ hargs htbl hv
      · simp [Ans.res] at h
    · split at h
      · rename_i fn hfn
        split at h
        · rename_i b hb
          obtain ⟨⟨u, m'⟩, h1, h2⟩ := Ans.bind_some h
          simp only [Ans.res, Option.some.injEq] at h2
          subst h2
          exact (inner f fn b args [] u m' hfn hb h1).plain hargs hv
        · simp [Ans.res] at h
      · simp [Ans.res] at h
  · simp only [callsOf] at h
    split at h
    · rename_i ans hans
      exact hC.tbm f args m ans v m' hans h
    · split at h
      · rename_i fn hfn
        split at h
        · rename_i b hb
          exact inner f fn b args m v m' hfn hb h
        · simp [Ans.res] at h
      · simp [Ans.res] at h
  · obtain ⟨h0, hmm⟩ := noInl (f := f) (z := 0) hf
    rw [hmm] at h
    split at h
    · rename_i ans hans
      obtain ⟨e1, e2⟩ := hC.rd f h0 args m ans v m' hans h
      refine ⟨e1, fun q k hq => ?_⟩
      obtain ⟨ans', h1, h2⟩ := e2 q k hq
      rw [hmm, h1]
      exact h2
    · simp [Ans.res] at h
  · obtain ⟨h0, hmm⟩ := noInl (f := f) (z := 1) hf
    rw [hmm] at h
    split at h
    · rename_i ans hans
      obtain ⟨new, e1, e2⟩ := hC.rd2 f h0 args m ans v m' hans h
      refine ⟨new, e1, fun q k hk hq => ?_⟩
      obtain ⟨ans', h1, h2⟩ := e2 q k hk hq
      rw [hmm, h1]
      exact h2
    · simp [Ans.res] at h

theorem exCode_sound {C : Cx} (hC : CxOk C) : ∀ n, Sound C n ∧ SoundLoop C n := by
  intro n
  induction n with
  | zero => exact ⟨fun f B c _ st e s h => by simp [exCode, Ans.res] at h, fun f B x _ st e s h => by simp [exCode, Ans.res] at h⟩
  | succ n ih =>
    obtain ⟨ih, ihl⟩ := ih
    have hloop : SoundLoop C (n + 1) := by
      intro f B x hin st e s h Q w0 keep r0 a w hB hQ hr
      simp only [exCode] at h
      split at h
      · rename_i ans hans
        rcases hin with ⟨fn, b, h1, h2, h3⟩ | hno
        · exact hC.lp f fn b h1 h2 x (h3 x (by simp [loopsIn])) B st ans e s hans h Q w0 keep r0 a w hB hQ hr
        · have := hno (loopKey x) (C.into f B).fb st
          rw [this] at hans; cases hans
      · obtain ⟨⟨e1, s1⟩, h1, h2⟩ := Ans.bind_some h
        refine LoopsTo.round ?_
        refine ih f B x (hin.sub fun y hy => by simp [loopsIn, hy]) st e1 s1 h1 _ w0 keep r0 a w hB ?_ hr
        intro a' w' hr'
        simp only at h2
        cases e1 with
        | normal => exact ihl f B x hin s1 e s h2 Q w0 keep r0 a' w' hB hQ hr'
        | _ =>
          simp only [Ans.res, Option.some.injEq, Prod.mk.injEq] at h2
          obtain ⟨rfl, rfl⟩ := h2
          exact hQ a' w' hr'
    refine ⟨?_, hloop⟩
    intro f B c hin st e s h Q w0 keep r0 a w hB hQ hr
    cases c with
    | skip =>
      simp only [exCode, Ans.res, Option.some.injEq, Prod.mk.injEq] at h
      obtain ⟨rfl, rfl⟩ := h
      exact wp_skip (hQ a w hr)
    | label l =>
      simp only [exCode, Ans.res, Option.some.injEq, Prod.mk.injEq] at h
      obtain ⟨rfl, rfl⟩ := h
      exact wp_label (hQ a w hr)
    | exit id =>
      simp only [exCode, Ans.res, Option.some.injEq, Prod.mk.injEq] at h
      obtain ⟨rfl, rfl⟩ := h
      exact wp_exit (hQ a w hr)
    | ret =>
      simp only [exCode, Ans.res, Option.some.injEq, Prod.mk.injEq] at h
      obtain ⟨rfl, rfl⟩ := h
      exact wp_ret (hQ a w hr)
    | seq x y =>
      simp only [exCode] at h
      obtain ⟨⟨e1, s1⟩, h1, h2⟩ := Ans.bind_some h
      refine wp_seq (ih f B x (hin.sub fun z hz => by simp [loopsIn, hz]) st e1 s1 h1 _ w0 keep r0 a w hB ?_ hr)
      intro a' w' hr'
      simp only at h2
      cases e1 with
      | normal => exact ih f B y (hin.sub fun z hz => by simp [loopsIn, hz]) s1 e s h2 Q w0 keep r0 a' w' hB hQ hr'
      | _ =>
        simp only [Ans.res, Option.some.injEq, Prod.mk.injEq] at h2
        obtain ⟨rfl, rfl⟩ := h2
        exact hQ a' w' hr'
    | cond c x y =>
      cases c with
      | tmp t =>
        simp only [exCode] at h
        split at h
        · rename_i b hb
          obtain ⟨r, hx, hr'⟩ := hr
          have he : a.eval (.tmp t) = .bool b := by
            have := eval_R hr' (.tmp t)
            simp only [ev, hb, Option.getD_some] at this
            exact R_bool this
          rcases Ans.br_some h with ⟨rfl, h⟩ | ⟨rfl, h⟩
          · simp only [lit_self hb] at h
            exact wp_cond_true he (ih f B x (hin.sub fun z hz => by simp [loopsIn, hz]) st e s h Q w0 keep r0 a w hB hQ ⟨r, hx, hr'⟩)
          · simp only [lit_self hb] at h
            exact wp_cond_false he (ih f B y (hin.sub fun z hz => by simp [loopsIn, hz]) st e s h Q w0 keep r0 a w hB hQ ⟨r, hx, hr'⟩)
        · simp [Ans.res] at h
      | _ => simp [exCode, Ans.res] at h
    | block id x =>
      simp only [exCode] at h
      obtain ⟨⟨e1, s1⟩, h1, h2⟩ := Ans.bind_some h
      refine wp_block (ih f B x (hin.sub fun z hz => by simpa [loopsIn] using hz) st e1 s1 h1 _ w0 keep r0 a w hB ?_ hr)
      intro a' w' hr'
      simp only at h2
      cases e1 with
      | exit i =>
        simp only [Exit.inBlock]
        simp only at h2
        cases hb : Nat.beq i id with
        | true =>
          have hi : i = id := Nat.eq_of_beq_eq_true hb
          simp only [hb, Ans.res, Option.some.injEq, Prod.mk.injEq] at h2
          obtain ⟨rfl, rfl⟩ := h2
          rw [if_pos hi]
          exact hQ a' w' hr'
        | false =>
          have hi : i ≠ id := fun e => by subst e; simp at hb
          simp only [hb, Ans.res, Option.some.injEq, Prod.mk.injEq] at h2
          obtain ⟨rfl, rfl⟩ := h2
          rw [if_neg hi]
          exact hQ a' w' hr'
      | _ =>
        simp only [Ans.res, Option.some.injEq, Prod.mk.injEq] at h2
        obtain ⟨rfl, rfl⟩ := h2
        exact hQ a' w' hr'
    | loop x => exact (hloop f B x hin st e s h Q w0 keep r0 a w hB hQ hr).wp
    | region id ops draw =>
      simp only [exCode] at h
      split at h
      · rename_i hok
        obtain ⟨s1, h1, h2⟩ := Ans.bind_some h
        simp only [Ans.res, Option.some.injEq, Prod.mk.injEq] at h2
        obtain ⟨rfl, rfl⟩ := h2
        rw [opsA_res] at h1
        exact region_sound hC.mixed (callsOf_ok hC ih f B) hok h1 (fun a w hr => hQ a w hr) hr
      · simp [Ans.res] at h
    | _ => simp [exCode, Ans.res] at h

/-- A function that the executor runs is called so. -/
theorem exFunA_sem {C : Cx} (hC : CxOk C) {n : Nat} {f : FuncId} {fn : Func} {args : List Value} {m m' : Mem} {v : Value} (hf : C.P.funcs[f]? = some fn) (hok : (fn.name == "runtime.NumGoroutine") = false) (hcur : C.cur = f ∨ ∀ k n st, C.lp C.cur k n st = none) (h : (exFunA C n fn args m).res = some (v, m')) : MemSem C.P f args m v m' := by
  unfold exFunA at h
  split at h
  · rename_i b hb
    obtain ⟨⟨e, s⟩, h1, h2⟩ := Ans.bind_some h
    refine body_mem hf hb hok ((exCode_sound hC n).1 C.cur m.length b ?_ _ _ _ h1) h2
    rcases hcur with rfl | hno
    · exact Or.inl ⟨fn, b, hf, hb, fun x hx => hx⟩
    · exact Or.inr hno
  · simp [Ans.res] at h
theorem exFun_sem {C : Cx} (hC : CxOk C) {n : Nat} {f : FuncId} {fn : Func} {args : List Value} {v : Value} (hf : C.P.funcs[f]? = some fn) (hok : (fn.name == "runtime.NumGoroutine") = false) (hcur : C.cur = f ∨ ∀ k n st, C.lp C.cur k n st = none) (hargs : ∀ x ∈ args, plain x = true) (h : exFun C n fn args = some v) : PlainSem C.P f args v ∧ plain v = true := by
  unfold exFun at h
  obtain ⟨⟨u, m'⟩, h1, h2⟩ := Ans.bind_some h
  unfold onlyPlain at h2
  split at h2
  · rename_i hp
    simp only [Ans.res, Option.some.injEq] at h2
    subst h2
    exact ⟨(exFunA_sem hC hf hok hcur h1).plain hargs hp, hp⟩
  · simp [Ans.res] at h2
end Go.Proofs.Ytjhijkdicmbbiaa.Vx


namespace Go.Proofs.Ytjhijkdicmbbiaa.Vx
open Go Go.RowKit

def leafFields (P : Program) (sub : TypeId → Option (List (Option IntKind))) : List Field → List (Option IntKind) → Option (List (Option IntKind))
  | [], as => some as
  | f :: fs, as => match sub f.type with
    | some ls => if f.offset = as.length ∧ P.cellsOf f.type = ls.length then leafFields P sub fs (as ++ ls) else none
    | none => none

/-- The cells of a type: an integer of a kind, or a bool. -/
def leafs (P : Program) : Nat → TypeId → Option (List (Option IntKind))
  | 0, _ => none
  | d + 1, t => match P.underlying t with
    | some .bool => some [none]
    | some (.int k) => some [some k]
    | some (.array n e) => match leafs P d e with
      | some ls => if P.cellsOf e = ls.length ∧ P.cellsOf t = n * ls.length then some (List.replicate n ls).flatten else none
      | none => none
    | some (.struct fs) => match leafFields P (leafs P d) fs.toList [] with
      | some ls => if P.cellsOf t = ls.length then some ls else none
      | none => none
    | _ => none

def LeafOk : Option IntKind → Value → Prop
  | some k, v => ∃ n, v = .int k n ∧ (Lit.int k n).wf = true
  | none, v => ∃ b, v = .bool b

def Leaves : List (Option IntKind) → List Value → Prop
  | [], [] => True
  | l :: ls, v :: vs => LeafOk l v ∧ Leaves ls vs
  | _, _ => False

theorem Leaves.append : ∀ {ls ms : List (Option IntKind)} {vs us : List Value}, Leaves ls vs → Leaves ms us → Leaves (ls ++ ms) (vs ++ us)
  | [], _, [], _, _, h => h
  | _ :: _, _, _ :: _, _, h, h' => ⟨h.1, Leaves.append h.2 h'⟩
  | [], _, _ :: _, _, h, _ => h.elim
  | _ :: _, _, [], _, h, _ => h.elim

theorem leaves_rows {ls : List (Option IntKind)} : ∀ (n : Nat) (cs : List Value), cs.length = n * ls.length → (∀ i, i < n → Leaves ls ((cs.drop (i * ls.length)).take ls.length)) → Leaves (List.replicate n ls).flatten cs
  | 0, cs, hl, _ => by
    rw [Nat.zero_mul] at hl
    rw [List.eq_nil_of_length_eq_zero hl]
    trivial
  | n + 1, cs, hl, h => by
    rw [List.replicate_succ, List.flatten_cons]
    have h0 := h 0 (by omega)
    simp only [Nat.zero_mul, List.drop_zero] at h0
    rw [show cs = cs.take ls.length ++ cs.drop ls.length from (List.take_append_drop _ _).symm]
    rw [Nat.add_mul, Nat.one_mul] at hl
    refine Leaves.append h0 (leaves_rows n _ (by rw [List.length_drop]; omega) fun i hi => ?_)
    have := h (i + 1) (by omega)
    rw [List.drop_drop]
    rw [Nat.add_mul, Nat.one_mul, Nat.add_comm] at this
    exact this

section
variable {H : Type} {enc : TypeId × Value → H} {P : Program} {w : World} {base : Nat} {spare : Nat → Bool} {held : Bool}

theorem leafs_read : ∀ (d : Nat) (t : TypeId) (ls : List (Option IntKind)), leafs P d t = some ls → ∀ (fuel : Nat) (cs : List Value) (x : DataW H × List MemPlace), DataW.trod enc P w base spare held fuel t cs = some x → Leaves ls cs
  | 0, _, _, h, _, _, _, _ => by simp [leafs] at h
  | d + 1, t, ls, h, 0, cs, x, hx => by simp [DataW.trod] at hx
  | d + 1, t, ls, h, fuel + 1, cs, x, hx => by
    unfold leafs at h
    cases hu : P.underlying t with
    | none => simp [hu] at h
    | some kd =>
      simp only [hu] at h
      cases kd with
      | bool =>
        simp only [Option.some.injEq] at h
        subst h
        unfold DataW.trod at hx
        rw [hu] at hx
        split at hx <;> simp_all [Leaves, LeafOk]
      | int k =>
        simp only [Option.some.injEq] at h
        subst h
        unfold DataW.trod at hx
        rw [hu] at hx
        split at hx <;> simp_all [Leaves, LeafOk]
      | array n e =>
        simp only at h
        cases he : leafs P d e with
        | none => simp [he] at h
        | some ms =>
          simp only [he] at h
          split at h
          · rename_i hc
            simp only [Option.some.injEq] at h
            subst h
            obtain ⟨xs, m, hm, _, hl, hn, hg⟩ := DataW.trod_array hu hx
            refine leaves_rows n cs (by rw [hl, hc.2]) fun i hi => ?_
            have := hg i hi
            rw [List.getElem?_eq_getElem (by omega)] at this
            rw [← hc.1]
            exact leafs_read d e ms he m _ _ this
          · cases h
      | struct fs =>
        simp only at h
        unfold DataW.trod at hx
        rw [hu] at hx
        have hx' : cs.length = P.cellsOf t ∧ ∃ xs, (fs.toList.mapM fun f => DataW.trod enc P w base spare held fuel f.type ((cs.drop f.offset).take (P.cellsOf f.type))) = some xs := by
          split at hx <;> simp_all
          obtain ⟨h1, xs, h2, _⟩ := hx
          exact ⟨xs, h2⟩
        obtain ⟨hlen, xs, hxs⟩ := hx'
        cases hlf : leafFields P (leafs P d) fs.toList [] with
        | none => simp [hlf] at h
        | some rs =>
          simp only [hlf] at h
          split at h
          · rename_i hct
            simp only [Option.some.injEq] at h
            subst h
            have key : ∀ (gs : List Field) (as : List (Option IntKind)) (xs : List (DataW H × List MemPlace)), gs.mapM (fun f => DataW.trod enc P w base spare held fuel f.type ((cs.drop f.offset).take (P.cellsOf f.type))) = some xs →
                leafFields P (leafs P d) gs as = some rs → Leaves as (cs.take as.length) → Leaves rs (cs.take rs.length) := by
              intro gs
              induction gs with
              | nil => intro as xs _ h1 h2; simp [leafFields] at h1; subst h1; exact h2
              | cons f gs ih =>
                intro as xs hm h1 h2
                rw [List.mapM_cons] at hm
                simp only [bind, Option.bind_eq_some_iff, pure, Option.some.injEq] at hm
                obtain ⟨y, hy, ys, hys, _⟩ := hm
                simp only [leafFields] at h1
                cases hf : leafs P d f.type with
                | none => simp [hf] at h1
                | some ms =>
                  simp only [hf] at h1
                  split at h1
                  · rename_i hc
                    have := leafs_read d f.type ms hf fuel _ _ hy
                    refine ih (as ++ ms) ys hys h1 ?_
                    rw [List.length_append, List.take_add]
                    rw [hc.1, hc.2] at this
                    exact Leaves.append h2 this
                  · cases h1
            have := key fs.toList [] xs hxs hlf trivial
            rw [List.take_of_length_le (by omega)] at this
            exact this
          · cases h
      | _ => simp at h
end

/-- A row of integers of one kind. -/
def intsK (k : IntKind) (l : List Int) : List Value := l.map (.int k)

theorem leaves_ints {k : IntKind} : ∀ (n : Nat) (cs : List Value), Leaves (List.replicate n (some k)) cs → ∃ l : List Int, l.length = n ∧ cs = intsK k l ∧ ∀ x ∈ l, (Lit.int k x).wf = true
  | 0, [], _ => ⟨[], rfl, rfl, fun _ h => by cases h⟩
  | 0, _ :: _, h => h.elim
  | n + 1, [], h => h.elim
  | n + 1, c :: cs, h => by
    obtain ⟨⟨x, rfl, hx⟩, h2⟩ := h
    obtain ⟨l, hl, rfl, hw⟩ := leaves_ints n cs h2
    refine ⟨x :: l, by simp [hl], rfl, fun y hy => ?_⟩
    rcases List.mem_cons.1 hy with rfl | hy
    · exact hx
    · exact hw y hy

section
variable {H : Type} {enc : TypeId × Value → H} {P : Program} {w : World} {base : Nat} {spare : Nat → Bool} {held : Bool}
end

def intsOf (k : IntKind) : Nat → List Value → Option (List Int)
  | 0, [] => some []
  | n + 1, .int k' x :: vs => if k' = k then match intsOf k n vs with
      | some l => some (x :: l)
      | none => none
    else none
  | _, _ => none

def unpack : List (Option Nat) → List Value → Option (List Int)
  | [], [] => some []
  | none :: sh, .int k x :: vs => if k = .i64 then match unpack sh vs with
      | some r => some (x :: r)
      | none => none
    else none
  | some n :: sh, .agg cs :: vs => match intsOf .i64 n cs.toList with
    | some l => match unpack sh vs with
      | some r => some (l ++ r)
      | none => none
    | none => none
  | _, _ => none

def okFunc (P : Program) (f : FuncId) : Bool :=
  match P.funcs[f]? with
  | some fn => !(fn.name == "runtime.NumGoroutine") && fn.body.isSome
  | none => false
theorem okFunc_spec {P : Program} {f : FuncId} (h : okFunc P f = true) : ∃ fn, P.funcs[f]? = some fn ∧ (fn.name == "runtime.NumGoroutine") = false ∧ fn.body.isNone = false := by
  unfold okFunc at h
  split at h
  · rename_i fn hf
    simp only [Bool.and_eq_true, Bool.not_eq_true'] at h
    refine ⟨fn, hf, h.1, ?_⟩
    have := h.2
    cases hb : fn.body with
    | none => rw [hb] at this; cases this
    | some b => rfl
  · cases h
theorem okFunc_name {P : Program} {f : FuncId} {fn : Func} (h : okFunc P f = true) (hf : P.funcs[f]? = some fn) : (fn.name == "runtime.NumGoroutine") = false := by
  obtain ⟨fn', h1, h2, _⟩ := okFunc_spec h
  rw [hf] at h1
  simp only [Option.some.injEq] at h1
  subst h1
  exact h2

/-- A function without memory, told of any values. -/
def Cx.addR (C : Cx) (f : FuncId) (F : List Value → Option (Bool × Value)) : Cx :=
  { C with tbl := fun g args => match Nat.beq g f with
    | true => F args
    | false => C.tbl g args }
/-- A function without memory, told of numbers. -/
def Cx.addD (C : Cx) (f : FuncId) (sh : List (Option Nat)) (F : List Int → Option (Bool × Value)) : Cx :=
  { C with tbl := fun g args => match Nat.beq g f with
    | true => match unpack sh args with
      | some l => F l
      | none => none
    | false => C.tbl g args }
def Cx.add (C : Cx) (f : FuncId) (sh : List (Option Nat)) (F : List Int → Option Value) : Cx :=
  C.addD f sh fun l => match F l with
    | some v => some (true, v)
    | none => none
/-- A function with memory. -/
def Cx.addM (C : Cx) (f : FuncId) (F : List Value → Mem → Option (Ans (Value × Mem))) : Cx :=
  { C with tbm := fun g args m => match Nat.beq g f with
    | true => F args m
    | false => C.tbm g args m, rd := fun g => match Nat.beq g f with
    | true => 0
    | false => C.rd g }
theorem Cx.addR_ok {C : Cx} (hC : CxOk C) {n : Nat} {f : FuncId} {fn : Func} (hf : C.P.funcs[f]? = some fn) (hok : okFunc C.P f = true) (hcur : C.cur = f ∨ ∀ k n st, C.lp C.cur k n st = none) {F : List Value → Option (Bool × Value)}
    (h : ∀ args v, F args = some (true, v) → exFun C n fn args = some v) : CxOk (C.addR f F) := by
  refine ⟨hC.mixed, ?_, hC.tbm, hC.keys, hC.inl, hC.lp, hC.rd, hC.rd2, hC.ext⟩
  intro g args v hargs hv hp
  simp only [Cx.addR] at hv
  cases hg : Nat.beq g f with
  | false => simp only [hg] at hv; exact hC.tbl g args v hargs hv hp
  | true =>
    have hgf : g = f := Nat.eq_of_beq_eq_true hg
    subst hgf
    simp only [hg] at hv
    exact (exFun_sem hC hf (okFunc_name hok hf) hcur hargs (h args v hv)).1
theorem Cx.addM_ok {C : Cx} (hC : CxOk C) {f : FuncId} {F : List Value → Mem → Option (Ans (Value × Mem))} (h : ∀ args m ans v m', F args m = some ans → ans.res = some (v, m') → MemSem C.P f args m v m') : CxOk (C.addM f F) := by
  refine ⟨hC.mixed, hC.tbl, ?_, hC.keys, hC.inl, hC.lp, fun g hg => by
    simp only [Cx.addM] at hg ⊢
    cases hb : Nat.beq g f with
    | true => simp only [hb] at hg; cases hg
    | false => simp only [hb] at hg; exact hC.rd g hg, fun g hg => by
    simp only [Cx.addM] at hg ⊢
    cases hb : Nat.beq g f with
    | true => simp only [hb] at hg; cases hg
    | false => simp only [hb] at hg; exact hC.rd2 g hg, hC.ext⟩
  intro g args m ans v m' ha hr
  simp only [Cx.addM] at ha
  cases hg : Nat.beq g f with
  | false => simp only [hg] at ha; exact hC.tbm g args m ans v m' ha hr
  | true =>
    have hgf : g = f := Nat.eq_of_beq_eq_true hg
    subst hgf
    simp only [hg] at ha
    exact h args m ans v m' ha hr
theorem LoopSem.mono {P : Program} {B B' : Nat} {x : Code} {st s : St} {e : Exit} (h : LoopSem P B x st e s) (hB : B' ≤ B) : LoopSem P B' x st e s :=
  fun Q w0 keep r0 a w h0 => h Q w0 keep r0 a w fun b hb => h0 b (Nat.le_trans hB hb)
/-- No table; the named functions are walked into. -/
def base (P : Program) (ids : List Nat) : Cx := { P := P, tbl := fun _ _ => none, inl := fun f => match ids.contains f with
  | true => P.funcs[f]?
  | false => none }
theorem base_ok {P : Program} {ids : List Nat} (hm : P.follows .mixedOrders = true) (h : ids.all (okFunc P) = true) : CxOk (base P ids) := by
  refine ⟨hm, fun f args v _ hv => by simp [base] at hv, fun f args m ans v m' ha => by simp [base] at ha, fun kt n h => by simp [base] at h, fun f fn hf => ?_, fun f fn b _ _ x _ n st ans e s ha => by simp [base] at ha, fun f hf => by simp [base] at hf, fun f hf => by simp [base] at hf, fun f hf => absurd rfl hf⟩
  simp only [base] at hf
  split at hf
  · rename_i hc
    obtain ⟨fn', h1, h2, _⟩ := okFunc_spec (List.all_eq_true.1 h f (by simpa using hc))
    rw [h1] at hf
    simp only [Option.some.injEq] at hf
    subst hf
    exact ⟨h1, h2⟩
  · cases hf
/-- A function without a body. -/
def Cx.addX (C : Cx) (f : FuncId) (e : Nat) : Cx := { C with ext := fun g => match Nat.beq g f with
  | true => e
  | false => C.ext g }
theorem Cx.addX_ok {C : Cx} (hC : CxOk C) {f : FuncId} {e : Nat} {fn : Func} (h1 : C.P.funcs[f]? = some fn) (h2 : (fn.name == "runtime.NumGoroutine") = false) (h3 : fn.body.isNone = true) (h4 : (Extern.findNext fn).isNone = true) (h5 : Extern.find fn = some (extRow e)) : CxOk (C.addX f e) := by
  refine ⟨hC.mixed, hC.tbl, hC.tbm, hC.keys, hC.inl, hC.lp, hC.rd, hC.rd2, fun g hg => ?_⟩
  simp only [Cx.addX] at hg ⊢
  cases hb : Nat.beq g f with
  | true =>
    have := Nat.eq_of_beq_eq_true hb
    subst this
    exact ⟨fn, h1, h2, h3, h4, h5⟩
  | false => simp only [hb] at hg; exact hC.ext g hg
end Go.Proofs.Ytjhijkdicmbbiaa.Vx


namespace Go.Proofs.Ytjhijkdicmbbiaa.Vx
open Go Go.RowKit

def hasN (i : Nat) : List Nat → Bool
  | [] => false
  | j :: l => match Nat.beq j i with
    | true => true
    | false => hasN i l
/-- Only the listed slots are told on. -/
def keepL (live : List Nat) : Nat → List Value → List Value
  | _, [] => []
  | i, x :: l => match hasN i live with
    | true => x :: keepL live (i + 1) l
    | false => unk :: keepL live (i + 1) l
/-- Where a block of a state that is told anew is found: it bears the same number · a slot leads to it · a cell of a block does. -/
inductive From where
  | fix (n : Nat)
  | slot (t : Nat)
  | cell (b j : Nat)
  /-- as 'cell', if the block is none of the first so many -/
  | cellN (b j k : Nat)
def farOff : Nat := 1000000
def adrO (d : Nat) : Option Value → Nat
  | some v => match adrOf v with
    | some b => b
    | none => farOff + d
  | none => farOff + d
def From.get (st : St) : From → Nat
  | .fix n => n
  | .slot t => adrO (50000 + t) st.tmps[t]?
  | .cell b j => match st.mem[b]? with
    | some (.cells _ _ c) => adrO (100 * b + j) c[j]?
    | _ => farOff + (100 * b + j)
  | .cellN b j k => match st.mem[b]? with
    | some (.cells _ _ c) => match Nat.blt (adrO (100 * b + j) c[j]?) k with
      | true => farOff + (100 * b + j)
      | false => adrO (100 * b + j) c[j]?
    | _ => farOff + (100 * b + j)
/-- The place of a number in a list. -/
def idxN (b : Nat) : List Nat → Nat → Option Nat
  | [], _ => none
  | k :: ks, i => match Nat.beq k b with
    | true => some i
    | false => idxN b ks (i + 1)
def ren0 (ks : List Nat) : Value → Value
  | .pointer (some a) => match idxN a.block ks 0 with
    | some i => .pointer (some ⟨i, a.off, a.spot⟩)
    | none => unk
  | .slice (some a) n e => match idxN a.block ks 0 with
    | some i => .slice (some ⟨i, a.off, a.spot⟩) n e
    | none => unk
  | .map (some b) => match idxN b ks 0 with
    | some i => .map (some i)
    | none => unk
  | v => v
def mapL (f : Value → Value) : List Value → List Value
  | [] => []
  | x :: l => f x :: mapL f l
def ren1 (ks : List Nat) : Value → Value
  | .agg cs => .agg (mapL (ren0 ks) cs.toList).toArray
  | v => ren0 ks v
def renV (ks : List Nat) : Value → Value
  | .tuple vs => .tuple (mapL (ren1 ks) vs.toList).toArray
  | v => ren1 ks v
def renB (ks : List Nat) : Blk → Blk
  | .cells own e c => .cells own e (mapL (ren0 ks) c)
  | .rows own pl e n row => match pl with
    | true => .rows own true e n row
    | false => .rows own false e n fun i => mapL (ren0 ks) (row i)
  | .grow pl e n row => match pl with
    | true => .grow true e n row
    | false => .grow false e n fun i => mapL (ren0 ks) (row i)
  | .view pl e n row => match pl with
    | true => .view true e n row
    | false => .view false e n fun i => mapL (ren0 ks) (row i)
  | b => b
def renM (ks : List Nat) (m : Mem) : List Nat → Mem
  | [] => []
  | b :: l => (match m[b]? with
    | some k => renB ks k
    | none => .no) :: renM ks m l
def noDup : List Nat → Bool
  | [] => true
  | k :: l => !hasN k l && noDup l
def idsTo (B : Nat) : Nat → List Nat → Bool
  | i, [] => Nat.ble B i
  | i, k :: l => match Nat.blt i B with
    | true => Nat.beq k i && idsTo B (i + 1) l
    | false => true
def keysOf (st : St) : List From → List Nat
  | [] => []
  | x :: l => x.get st :: keysOf st l
def forceN {β : Type} : List Nat → (List Nat → β) → β
  | [], k => k []
  | x :: xs, k => forceN xs fun ys => k (x :: ys)
theorem forceN_eq {β : Type} : ∀ (l : List Nat) (k : List Nat → β), forceN l k = k l
  | [], _ => rfl
  | x :: xs, k => by simp only [forceN]; rw [forceN_eq xs]
def cleanB (mask : List Nat) (sp : List From) (B : Nat) (es : Exit × St) : Ans (Exit × St) :=
  forceN (keysOf es.2 sp) fun ks => match noDup ks && idsTo B 0 ks with
    | true => forceL (mapL (renV ks) (keepL mask 0 es.2.tmps)) fun tm => forceM (renM ks es.2.mem ks) fun m => match allB noViewB m with
      | true => forceM (thaw m) fun m => .out (es.1, ⟨tm, m⟩)
      | false => .out (es.1, ⟨tm, m⟩)
    | false => .fail
/-- Behind a round that goes on, and behind one that leaves. -/
def cleanA (mask out : List Nat) (sp so : List From) (B : Nat) (es : Exit × St) : Ans (Exit × St) := match es.1 with
  | .normal => cleanB mask sp B es
  | _ => cleanB out so B (es.1, ⟨es.2.tmps, killV es.2.mem⟩)

theorem hasN_iff {i : Nat} : ∀ {l : List Nat}, hasN i l = true ↔ i ∈ l
  | [] => by simp [hasN]
  | j :: l => by
    simp only [hasN, List.mem_cons]
    cases hb : Nat.beq j i with
    | true => simp [Nat.eq_of_beq_eq_true hb]
    | false =>
      have : j ≠ i := fun e => by subst e; simp at hb
      simp only [hasN_iff]
      exact ⟨Or.inr, fun h => h.resolve_left fun e => this e.symm⟩
theorem keepL_rel {r : Ren} (live : List Nat) : ∀ (i : Nat) {l l' : List Value}, RL (R r) l l' → RL (R r) (keepL live i l) l'
  | _, [], [], _ => trivial
  | i, x :: l, y :: l', h => by
    simp only [keepL]
    cases hasN i live with
    | false => exact ⟨R_unk r y, keepL_rel live (i + 1) h.2⟩
    | true => exact ⟨h.1, keepL_rel live (i + 1) h.2⟩
  | _, [], _ :: _, h => h.elim
  | _, _ :: _, [], h => h.elim

def Ren.via (r : Ren) (ks : List Nat) : Ren := fun i => match ks[i]? with
  | some b => r b
  | none => none
theorem idxN_spec {b : Nat} : ∀ {ks : List Nat} {i j : Nat}, idxN b ks i = some j → i ≤ j ∧ ks[j - i]? = some b
  | [], i, j, h => by simp [idxN] at h
  | k :: ks, i, j, h => by
    simp only [idxN] at h
    split at h
    · rename_i hb
      simp only [Option.some.injEq] at h
      subst h
      exact ⟨Nat.le_refl _, by simp [Nat.eq_of_beq_eq_true hb]⟩
    · obtain ⟨h1, h2⟩ := idxN_spec h
      refine ⟨by omega, ?_⟩
      rw [show j - i = (j - (i + 1)) + 1 by omega, List.getElem?_cons_succ]
      exact h2
theorem via_idx {r : Ren} {ks : List Nat} {b i : Nat} (h : idxN b ks 0 = some i) : (r.via ks) i = r b := by
  have := (idxN_spec h).2
  simp only [Nat.sub_zero] at this
  simp [Ren.via, this]
theorem R0_via {r : Ren} {ks : List Nat} {v v' : Value} (h : R0 r v v') : R0 (r.via ks) (ren0 ks v) v' := by
  unfold R0 at h
  cases v with
  | pointer a => cases a with
    | none => exact h
    | some a =>
      simp only [ren0]
      split
      · rename_i i hi
        unfold R0
        simp only [via_idx (r := r) hi]
        exact h
      · exact R_unk (r.via ks) v'
  | slice a n c => cases a with
    | none => exact h
    | some a =>
      simp only [ren0]
      split
      · rename_i i hi
        unfold R0
        simp only [via_idx (r := r) hi]
        exact h
      · exact R_unk (r.via ks) v'
  | map a => cases a with
    | none => exact h
    | some a =>
      simp only [ren0]
      split
      · rename_i i hi
        unfold R0
        simp only [via_idx (r := r) hi]
        exact h
      · exact R_unk (r.via ks) v'
  | iface t u => cases u <;> exact h
  | _ => exact h
theorem RL_mapL {Q S : Value → Value → Prop} {f : Value → Value} (hq : ∀ v v', Q v v' → S (f v) v') : ∀ {l l' : List Value}, RL Q l l' → RL S (mapL f l) l'
  | [], [], _ => trivial
  | _ :: _, _ :: _, h => ⟨hq _ _ h.1, RL_mapL hq h.2⟩
  | [], _ :: _, h => h.elim
  | _ :: _, [], h => h.elim
theorem R1_via {r : Ren} {ks : List Nat} {v v' : Value} (h : R1 r v v') : R1 (r.via ks) (ren1 ks v) v' := by
  cases v with
  | agg cs => obtain ⟨cs', rfl, h⟩ := h; exact ⟨cs', rfl, by simpa using RL_mapL (f := ren0 ks) (fun _ _ h => R0_via h) h⟩
  | _ =>
    unfold R1 at h
    have := R0_via (ks := ks) h
    revert this
    simp only [ren1]
    generalize hz : ren0 ks _ = z
    intro this
    cases z with
    | agg cs =>
      exfalso
      unfold ren0 at hz
      split at hz
      · split at hz <;> simp [unk] at hz
      · split at hz <;> simp [unk] at hz
      · split at hz <;> simp [unk] at hz
      · simp at hz
    | _ => exact this
theorem R_via {r : Ren} {ks : List Nat} {v v' : Value} (h : R r v v') : R (r.via ks) (renV ks v) v' := by
  cases v with
  | tuple cs => obtain ⟨cs', rfl, h⟩ := h; exact ⟨cs', rfl, by simpa using RL_mapL (f := ren1 ks) (fun _ _ h => R1_via h) h⟩
  | agg cs => exact R1_via (ks := ks) (v := .agg cs) h
  | _ =>
    unfold R at h
    have := R1_via (ks := ks) h
    revert this
    simp only [renV]
    generalize hz : ren1 ks _ = z
    intro this
    cases z with
    | tuple cs =>
      exfalso
      unfold ren1 at hz
      split at hz
      · simp at hz
      · unfold ren0 at hz
        split at hz
        · split at hz <;> simp [unk] at hz
        · split at hz <;> simp [unk] at hz
        · split at hz <;> simp [unk] at hz
        · simp at hz
    | _ => exact this
theorem mapL_get {f : Value → Value} : ∀ {l : List Value} {i : Nat} {v : Value}, (mapL f l)[i]? = some v → ∃ u, l[i]? = some u ∧ v = f u
  | [], i, v, h => by simp [mapL] at h
  | x :: l, 0, v, h => by simp [mapL] at h; exact ⟨x, rfl, h.symm⟩
  | x :: l, i + 1, v, h => by simp only [mapL, List.getElem?_cons_succ] at h ⊢; exact mapL_get h
theorem mapL_length {f : Value → Value} : ∀ (l : List Value), (mapL f l).length = l.length
  | [] => rfl
  | x :: l => by simp [mapL, mapL_length l]
theorem CellsAt_via {r : Ren} {ks : List Nat} {cs : Array Value} {off : Nat} {c : List Value} (h : CellsAt r cs off c) : CellsAt (r.via ks) cs off (mapL (ren0 ks) c) := fun k v hk => by
  obtain ⟨u, hu, rfl⟩ := mapL_get hk
  obtain ⟨v', h1, h2⟩ := h k u hu
  exact ⟨v', h1, R0_via h2⟩
theorem plain_via {r : Ren} {ks : List Nat} {v v' : Value} (hp : nad0 v = true) (h : R0 r v v') : R0 (r.via ks) v v' := R0_nad hp h
theorem rows_via {r : Ren} {ks : List Nat} {cs : Array Value} {off esz n : Nat} {row : Nat → List Value} (h5 : ∀ i, i < n → (row i).length = esz ∧ CellsAt r cs (off + i * esz) (row i)) :
    ((∀ i, i < n → allL nad0 (row i) = true) → ∀ i, i < n → (row i).length = esz ∧ CellsAt (r.via ks) cs (off + i * esz) (row i)) ∧ ∀ i, i < n → (mapL (ren0 ks) (row i)).length = esz ∧ CellsAt (r.via ks) cs (off + i * esz) (mapL (ren0 ks) (row i)) := by
  refine ⟨fun hp i hi => ⟨(h5 i hi).1, fun k v hk => ?_⟩, fun i hi => ⟨by rw [mapL_length]; exact (h5 i hi).1, CellsAt_via (h5 i hi).2⟩⟩
  obtain ⟨v', g1, g2⟩ := (h5 i hi).2 k v hk
  exact ⟨v', g1, plain_via (allL_iff.1 (hp i hi) v (List.mem_of_getElem? hk)) g2⟩
theorem BlkRel_via {w : World} {r : Ren} {ks : List Nat} {p : Place} {k : Blk} (h : BlkRel w r p k) : BlkRel w (r.via ks) p (renB ks k) := by
  cases k with
  | cells own esz c =>
    obtain ⟨h1, h2, cs, T, fz, h6, h3, h4, h5⟩ := h
    exact ⟨h1, h2, cs, T, fz, h6, h3, h4, CellsAt_via h5⟩
  | rows own pl esz n row =>
    obtain ⟨h1, h2, h0, hp, cs, T, fz, h6, h3, h4, h5⟩ := h
    cases pl with
    | true => exact ⟨h1, h2, h0, hp, cs, T, fz, h6, h3, h4, (rows_via h5).1 (hp rfl)⟩
    | false => exact ⟨h1, h2, h0, (fun h => by cases h), cs, T, fz, h6, h3, h4, (rows_via h5).2⟩
  | grow pl esz n row =>
    obtain ⟨h1, h2, h0, hp, cs, T, fz, h3, h4, h5⟩ := h
    cases pl with
    | true => exact ⟨h1, h2, h0, hp, cs, T, fz, h3, h4, (rows_via h5).1 (hp rfl)⟩
    | false => exact ⟨h1, h2, h0, (fun h => by cases h), cs, T, fz, h3, h4, (rows_via h5).2⟩
  | view pl esz n row =>
    obtain ⟨h1, h2, h0, hp, cs, T, fz, h3, h4, h5⟩ := h
    cases pl with
    | true => exact ⟨h1, h2, h0, hp, cs, T, fz, h3, h4, (rows_via h5).1 (hp rfl)⟩
    | false => exact ⟨h1, h2, h0, (fun h => by cases h), cs, T, fz, h3, h4, (rows_via h5).2⟩
  | _ => exact h
theorem renM_get {ks : List Nat} {m : Mem} : ∀ (l : List Nat) (i : Nat), (renM ks m l)[i]? = (l[i]?).map fun b => match m[b]? with
    | some k => renB ks k
    | none => .no
  | [], i => by simp [renM]
  | b :: l, 0 => by simp [renM]
  | b :: l, i + 1 => by simp only [renM, List.getElem?_cons_succ]; exact renM_get l i
theorem noDup_inj : ∀ {l : List Nat}, noDup l = true → ∀ {i j b : Nat}, l[i]? = some b → l[j]? = some b → i = j
  | [], _, i, j, b, h, _ => by simp at h
  | k :: l, hd, i, j, b, hi, hj => by
    simp only [noDup, Bool.and_eq_true, Bool.not_eq_true'] at hd
    have hn : k ∉ l := fun hm => by rw [hasN_iff.2 hm] at hd; cases hd.1
    cases i with
    | zero => cases j with
      | zero => rfl
      | succ j =>
        simp at hi hj
        subst hi
        exact absurd (List.mem_of_getElem? hj) hn
    | succ i => cases j with
      | zero =>
        simp at hi hj
        subst hj
        exact absurd (List.mem_of_getElem? hi) hn
      | succ j =>
        simp only [List.getElem?_cons_succ] at hi hj
        rw [noDup_inj hd.2 hi hj]
theorem renB_no {ks : List Nat} {k : Blk} : renB ks k = .no ↔ k = .no := by
  cases k with
  | rows own pl e n row => cases pl <;> simp [renB]
  | grow pl e n row => cases pl <;> simp [renB]
  | view pl e n row => cases pl <;> simp [renB]
  | _ => simp [renB]
theorem renB_grow {ks : List Nat} {k : Blk} (h : isGrow (some k)) : isGrow (some (renB ks k)) := by
  cases k with
  | grow pl e n row => cases pl <;> trivial
  | _ => exact h.elim
theorem MemRel_via {w0 : World} {keep : Keep} {r : Ren} {m : Mem} {w : World} {ks : List Nat} (h : MemRel w0 keep r m w) (hd : noDup ks = true) : MemRel w0 keep (r.via ks) (renM ks m ks) w := by
  have hv : ∀ {i : Nat} {q : Option Place}, (r.via ks) i = some q → ∃ b, ks[i]? = some b ∧ r b = some q := fun {i q} hq => by
    unfold Ren.via at hq
    split at hq
    · rename_i b hb; exact ⟨b, hb, hq⟩
    · cases hq
  refine ⟨h.os, h.tape, h.output, h.drawn, h.size, h.klt, h.kept, fun i hm => ?_, fun i hq => ?_, fun i p hq => ?_, fun i p hq => ?_, fun i p hq => ?_, fun i p hq => ?_, fun i j p q hi hj hp hz hq he => ?_, fun i j p q hi hj ho hq he => ?_⟩
  · unfold Ren.via
    cases hb : ks[i]? with
    | none => rfl
    | some b =>
      rw [renM_get, hb] at hm
      simp only [Option.map_some] at hm
      rcases hm with hm | hm
      · cases hm
      · simp only [Option.some.injEq] at hm
        cases hmb : m[b]? with
        | none => exact h.none b (Or.inl hmb)
        | some k =>
          rw [hmb] at hm
          exact h.none b (Or.inr (by rw [hmb, renB_no.1 hm]))
  · obtain ⟨b, hb, hr⟩ := hv hq
    rw [renM_get, hb]
    simp only [Option.map_some, h.dead b hr, renB]
  · obtain ⟨b, hb, hr⟩ := hv hq
    obtain ⟨k, h1, h2⟩ := h.blk b p hr
    refine ⟨renB ks k, ?_, BlkRel_via h2⟩
    rw [renM_get, hb]
    simp only [Option.map_some, h1]
  · obtain ⟨b, hb, hr⟩ := hv hq
    exact h.own b p hr
  · obtain ⟨b, hb, hr⟩ := hv hq
    exact h.read b p hr
  · obtain ⟨b, hb, hr⟩ := hv hq
    exact h.vw b p hr
  · obtain ⟨b, hb, hr⟩ := hv hi
    obtain ⟨c, hc, hs⟩ := hv hj
    obtain ⟨g1, g2⟩ := h.sep b c p q hr hs hp hz hq he
    rw [renM_get, hc]
    simp only [Option.map_some]
    cases hm : m[c]? with
    | none => rw [hm] at g1; exact g1.elim
    | some k => rw [hm] at g1; exact ⟨renB_grow g1, g2⟩
  · obtain ⟨b, hb, hr⟩ := hv hi
    obtain ⟨c, hc, hs⟩ := hv hj
    have := h.inj b c p q hr hs ho hq he
    subst this
    exact noDup_inj hd hb hc
theorem idsTo_spec {B : Nat} : ∀ {l : List Nat} {i b : Nat}, idsTo B i l = true → i ≤ b → b < B → l[b - i]? = some b
  | [], i, b, h, h1, h2 => by
    have := Nat.le_of_ble_eq_true h
    omega
  | k :: l, i, b, h, h1, h2 => by
    simp only [idsTo] at h
    rw [show Nat.blt i B = true by simp [Nat.blt_eq]; omega] at h
    simp only [Bool.and_eq_true] at h
    have hk : k = i := Nat.eq_of_beq_eq_true h.1
    by_cases hib : i = b
    · subst hib; subst hk; simp
    · have := idsTo_spec h.2 (show i + 1 ≤ b by omega) h2
      rw [show b - i = (b - (i + 1)) + 1 by omega, List.getElem?_cons_succ]
      exact this
theorem cleanB_rel {mask : List Nat} {sp : List From} {B : Nat} {e e' : Exit} {s s' : St} (h : (cleanB mask sp B (e, s)).res = some (e', s')) {w0 : World} {keep : Keep} {r0 : Ren} {a : Act} {w : World} (h0 : ∀ b, B ≤ b → r0 b = none) (hr : Rel w0 keep r0 s a w) : e' = e ∧ Rel w0 keep r0 s' a w := by
  unfold cleanB at h
  rw [forceN_eq] at h
  split at h
  · rename_i hb
    rw [Bool.and_eq_true] at hb
    rw [forceL_eq, forceM_eq] at h
    obtain ⟨r, hx, h1, h2, h3⟩ := hr
    have hext : Ext r0 (r.via (keysOf s sp)) := fun b => by
      by_cases hlt : b < B
      · have := idsTo_spec hb.2 (Nat.zero_le b) hlt
        simp only [Nat.sub_zero] at this
        have e1 : (r.via (keysOf s sp)) b = r b := by simp [Ren.via, this]
        rw [e1]
        exact hx b
      · exact Or.inl (h0 b (by omega))
    have hm := MemRel_via h3 hb.1
    have htm : RL (R (r.via (keysOf s sp))) (mapL (renV (keysOf s sp)) (keepL mask 0 s.tmps)) a.tmps.toList := RL_mapL (f := renV (keysOf s sp)) (fun _ _ h => R_via h) (keepL_rel mask 0 h2)
    split at h
    · rename_i hv
      rw [forceM_eq] at h
      simp only [Ans.res, Option.some.injEq, Prod.mk.injEq] at h
      obtain ⟨rfl, rfl⟩ := h
      exact ⟨rfl, r.via (keysOf s sp), hext, h1, htm, hm.thawed hv⟩
    · simp only [Ans.res, Option.some.injEq, Prod.mk.injEq] at h
      obtain ⟨rfl, rfl⟩ := h
      exact ⟨rfl, r.via (keysOf s sp), hext, h1, htm, hm⟩
  · simp [Ans.res] at h
theorem clean_rel {mask out : List Nat} {sp so : List From} {B : Nat} {e e' : Exit} {s s' : St} (h : (cleanA mask out sp so B (e, s)).res = some (e', s')) {w0 : World} {keep : Keep} {r0 : Ren} {a : Act} {w : World} (h0 : ∀ b, B ≤ b → r0 b = none) (hr : Rel w0 keep r0 s a w) : e' = e ∧ Rel w0 keep r0 s' a w := by
  unfold cleanA at h
  have hr2 : Rel w0 keep r0 ⟨s.tmps, killV s.mem⟩ a w := by
    obtain ⟨r, hx, h1, h2, h3⟩ := hr
    exact ⟨r.noV, hx.trans r.noV_ext, h1, RL.mono (fun _ _ => R.ext r.noV_ext) h2, h3.unview⟩
  cases e <;> first | exact cleanB_rel h h0 hr | exact cleanB_rel h h0 hr2

/-- One round. -/
def roundR (C : Cx) (n : Nat) (x : Code) (mask mout : List Nat) (sp so : List From) (st : St) : Option (Exit × St) := ((exCode n C x st).bind (cleanA mask mout sp so C.fb)).res
def lookN (i : Nat) : List (Nat × Value) → Option Value
  | [] => none
  | (j, v) :: l => match Nat.beq j i with
    | true => some v
    | false => lookN i l
def tmpsOf (vs : List (Nat × Value)) : Nat → Nat → List Value
  | _, 0 => []
  | i, n + 1 => (match lookN i vs with
    | some v => v
    | none => unk) :: tmpsOf vs (i + 1) n
/-- A state that is told by some of its slots, and its blocks. -/
def stOf (N : Nat) (vs : List (Nat × Value)) (m : Mem) : St := ⟨tmpsOf vs 0 N, m⟩
end Go.Proofs.Ytjhijkdicmbbiaa.Vx


namespace Go.Proofs.Ytjhijkdicmbbiaa.Vx
open Go Go.RowKit

/-- The number, among M blocks, of the i-th of those that were handed over, or of one that was made behind them. -/
def unr (ks : List Nat) (M i : Nat) : Nat := match ks[i]? with
  | some b => b
  | none => M + (i - ks.length)
def unr0 (ks : List Nat) (M : Nat) : Value → Value
  | .pointer (some a) => .pointer (some ⟨unr ks M a.block, a.off, a.spot⟩)
  | .slice (some a) n e => .slice (some ⟨unr ks M a.block, a.off, a.spot⟩) n e
  | .map (some b) => .map (some (unr ks M b))
  | v => v
def unr1 (ks : List Nat) (M : Nat) : Value → Value
  | .agg cs => .agg (mapL (unr0 ks M) cs.toList).toArray
  | v => unr0 ks M v
def unrV (ks : List Nat) (M : Nat) : Value → Value
  | .tuple vs => .tuple (mapL (unr1 ks M) vs.toList).toArray
  | v => unr1 ks M v
def unrB (ks : List Nat) (M : Nat) : Blk → Blk
  | .cells own e c => .cells own e (mapL (unr0 ks M) c)
  | .rows own pl e n row => match pl with
    | true => .rows own true e n row
    | false => .rows own false e n fun i => mapL (unr0 ks M) (row i)
  | .grow pl e n row => match pl with
    | true => .grow true e n row
    | false => .grow false e n fun i => mapL (unr0 ks M) (row i)
  | .view pl e n row => match pl with
    | true => .view true e n row
    | false => .view false e n fun i => mapL (unr0 ks M) (row i)
  | b => b
def mapB (f : Blk → Blk) : Mem → Mem
  | [] => []
  | b :: l => f b :: mapB f l
def setK (f : Blk → Blk) (m : Mem) : List Nat → Mem → Mem
  | k :: ks, b :: bs => setK f (m.set k (f b)) ks bs
  | _, _ => m
def framed (ks : List Nat) (m ms : Mem) : Mem := setK (unrB ks m.length) m ks ms ++ mapB (unrB ks m.length) (ms.drop ks.length)
def allLt (M : Nat) : List Nat → Bool
  | [] => true
  | k :: ks => Nat.blt k M && allLt M ks

theorem allLt_iff {M : Nat} : ∀ {ks : List Nat}, allLt M ks = true → ∀ {i b : Nat}, ks[i]? = some b → b < M
  | [], _, i, b, h => by simp at h
  | k :: ks, hl, 0, b, h => by
    simp only [allLt, Bool.and_eq_true] at hl
    simp at h
    subst h
    exact Nat.blt_eq.mp hl.1
  | k :: ks, hl, i + 1, b, h => by
    simp only [allLt, Bool.and_eq_true] at hl
    simp only [List.getElem?_cons_succ] at h
    exact allLt_iff hl.2 h
theorem mapB_get {f : Blk → Blk} : ∀ (l : Mem) (i : Nat), (mapB f l)[i]? = (l[i]?).map f
  | [], i => by simp [mapB]
  | b :: l, 0 => by simp [mapB]
  | b :: l, i + 1 => by simp only [mapB, List.getElem?_cons_succ]; exact mapB_get l i
theorem setK_length {f : Blk → Blk} : ∀ (ks : List Nat) (bs m : Mem), (setK f m ks bs).length = m.length
  | [], [], m => rfl
  | [], _ :: _, m => rfl
  | k :: ks, [], m => rfl
  | k :: ks, b :: bs, m => by simp only [setK]; rw [setK_length ks bs]; simp
theorem setK_not {f : Blk → Blk} {c : Nat} : ∀ (ks : List Nat) (bs m : Mem), c ∉ ks → (setK f m ks bs)[c]? = m[c]?
  | [], [], m, _ => rfl
  | [], _ :: _, m, _ => rfl
  | k :: ks, [], m, _ => rfl
  | k :: ks, b :: bs, m, h => by
    simp only [List.mem_cons, not_or] at h
    simp only [setK]
    rw [setK_not ks bs _ h.2, List.getElem?_set_ne (fun e => h.1 e.symm)]
theorem setK_at {f : Blk → Blk} {c : Nat} : ∀ (ks : List Nat) (bs m : Mem) (i : Nat), noDup ks = true → allLt m.length ks = true → ks.length ≤ bs.length → ks[i]? = some c → (setK f m ks bs)[c]? = (bs[i]?).map f
  | [], bs, m, i, _, _, _, h => by simp at h
  | k :: ks, [], m, i, _, _, hl, h => by simp at hl
  | k :: ks, b :: bs, m, i, hd, ha, hl, h => by
    simp only [noDup, Bool.and_eq_true, Bool.not_eq_true'] at hd
    simp only [allLt, Bool.and_eq_true] at ha
    have hn : k ∉ ks := fun hm => by rw [hasN_iff.2 hm] at hd; cases hd.1
    have hk : k < m.length := Nat.blt_eq.mp ha.1
    simp only [setK]
    cases i with
    | zero =>
      simp at h
      subst h
      rw [setK_not ks bs _ hn, List.getElem?_set_self hk]
      simp
    | succ i =>
      simp only [List.getElem?_cons_succ] at h ⊢
      exact setK_at ks bs _ i hd.2 (by simpa using ha.2) (by simpa using hl) h
theorem idxN_of {ks : List Nat} (hd : noDup ks = true) {i b : Nat} (h : ks[i]? = some b) : idxN b ks 0 = some i := by
  have key : ∀ (l : List Nat) (j : Nat), b ∈ l → ∃ q, idxN b l j = some q := by
    intro l
    induction l with
    | nil => intro j hm; cases hm
    | cons x l ih =>
      intro j hm
      simp only [idxN]
      cases hb : Nat.beq x b with
      | true => exact ⟨_, rfl⟩
      | false =>
        rcases List.mem_cons.1 hm with rfl | hm
        · simp at hb
        · exact ih _ hm
  obtain ⟨q, hq⟩ := key ks 0 (List.mem_of_getElem? h)
  have := (idxN_spec hq).2
  simp only [Nat.sub_zero] at this
  rw [hq, noDup_inj hd this h]
theorem idxN_not {b : Nat} : ∀ {l : List Nat} {j : Nat}, b ∉ l → idxN b l j = none
  | [], _, _ => rfl
  | x :: l, j, h => by
    simp only [List.mem_cons, not_or] at h
    simp only [idxN]
    rw [show Nat.beq x b = false by
      cases hb : Nat.beq x b with
      | false => rfl
      | true => exact absurd (Nat.eq_of_beq_eq_true hb).symm h.1]
    exact idxN_not h.2

/-- Where blocks lie behind a call that was handed some of them. -/
def Ren.back (r rs : Ren) (ks : List Nat) (M : Nat) : Ren := fun b => match idxN b ks 0 with
  | some i => rs i
  | none => if b < M then r b else rs (ks.length + (b - M))
theorem back_unr {r rs : Ren} {ks : List Nat} {M : Nat} (hd : noDup ks = true) (ha : allLt M ks = true) (i : Nat) : (r.back rs ks M) (unr ks M i) = rs i := by
  unfold Ren.back unr
  cases hi : ks[i]? with
  | some b => simp only [idxN_of hd hi]
  | none =>
    have hl : ks.length ≤ i := List.getElem?_eq_none_iff.1 hi
    have hn : (M + (i - ks.length)) ∉ ks := fun hm => by
      obtain ⟨j, hj⟩ := List.getElem?_of_mem hm
      have := allLt_iff ha hj
      omega
    simp only [idxN_not hn]
    rw [if_neg (by omega)]
    congr 1; omega
theorem R1_nagg {r : Ren} {v v' : Value} (hn : ∀ cs, v ≠ .agg cs) : R1 r v v' ↔ R0 r v v' := by
  cases v with
  | agg cs => exact absurd rfl (hn cs)
  | _ => exact Iff.rfl
theorem unr1_nagg {ks : List Nat} {M : Nat} {v : Value} (hn : ∀ cs, v ≠ .agg cs) : unr1 ks M v = unr0 ks M v := by
  cases v with
  | agg cs => exact absurd rfl (hn cs)
  | _ => rfl
theorem unr0_nagg {ks : List Nat} {M : Nat} {v : Value} (hn : ∀ cs, v ≠ .agg cs) : ∀ cs, unr0 ks M v ≠ .agg cs := by
  intro cs
  cases v with
  | agg cs => exact absurd rfl (hn cs)
  | pointer a => cases a <;> simp [unr0]
  | slice a n c => cases a <;> simp [unr0]
  | map a => cases a <;> simp [unr0]
  | _ => simp [unr0]
theorem unrV_ntup {ks : List Nat} {M : Nat} {v : Value} (hn : ∀ cs, v ≠ .tuple cs) : unrV ks M v = unr1 ks M v := by
  cases v with
  | tuple cs => exact absurd rfl (hn cs)
  | _ => rfl
theorem unr1_ntup {ks : List Nat} {M : Nat} {v : Value} (hn : ∀ cs, v ≠ .tuple cs) : ∀ cs, unr1 ks M v ≠ .tuple cs := by
  intro cs
  cases v with
  | tuple cs => exact absurd rfl (hn cs)
  | pointer a => cases a <;> simp [unr1, unr0]
  | slice a n c => cases a <;> simp [unr1, unr0]
  | map a => cases a <;> simp [unr1, unr0]
  | _ => simp [unr1, unr0]
section
variable {r rs : Ren} {ks : List Nat} {M : Nat} (hd : noDup ks = true) (ha : allLt M ks = true)
include hd ha
theorem R0_back {v v' : Value} (h : R0 rs v v') : R0 (r.back rs ks M) (unr0 ks M v) v' := by
  unfold R0 at h
  cases v with
  | pointer a => cases a with
    | none => exact h
    | some a => simp only [unr0]; unfold R0; simp only [back_unr (r := r) (rs := rs) hd ha]; exact h
  | slice a n c => cases a with
    | none => exact h
    | some a => simp only [unr0]; unfold R0; simp only [back_unr (r := r) (rs := rs) hd ha]; exact h
  | map a => cases a with
    | none => exact h
    | some a => simp only [unr0]; unfold R0; simp only [back_unr (r := r) (rs := rs) hd ha]; exact h
  | iface t u => cases u <;> exact h
  | _ => exact h
theorem R1_back {v v' : Value} (h : R1 rs v v') : R1 (r.back rs ks M) (unr1 ks M v) v' := by
  by_cases hn : ∃ cs, v = .agg cs
  · obtain ⟨cs, rfl⟩ := hn
    obtain ⟨cs', rfl, h⟩ := h
    exact ⟨cs', rfl, by simpa using RL_mapL (f := unr0 ks M) (fun _ _ h => R0_back hd ha h) h⟩
  · have h0 := (R1_nagg fun cs e => hn ⟨cs, e⟩).1 h
    rw [unr1_nagg fun cs e => hn ⟨cs, e⟩]
    exact (R1_nagg (unr0_nagg fun cs e => hn ⟨cs, e⟩)).2 (R0_back hd ha h0)
theorem R_back {v v' : Value} (h : R rs v v') : R (r.back rs ks M) (unrV ks M v) v' := by
  by_cases hn : ∃ cs, v = .tuple cs
  · obtain ⟨cs, rfl⟩ := hn
    obtain ⟨cs', rfl, h⟩ := h
    exact ⟨cs', rfl, by simpa using RL_mapL (f := unr1 ks M) (fun _ _ h => R1_back hd ha h) h⟩
  · have h0 := (R1_R fun cs e => hn ⟨cs, e⟩).1 h
    rw [unrV_ntup fun cs e => hn ⟨cs, e⟩]
    exact (R1_R (unr1_ntup fun cs e => hn ⟨cs, e⟩)).2 (R1_back hd ha h0)
theorem CellsAt_back {cs : Array Value} {off : Nat} {c : List Value} (h : CellsAt rs cs off c) : CellsAt (r.back rs ks M) cs off (mapL (unr0 ks M) c) := fun k v hk => by
  obtain ⟨u, hu, rfl⟩ := mapL_get hk
  obtain ⟨v', h1, h2⟩ := h k u hu
  exact ⟨v', h1, R0_back hd ha h2⟩
theorem rows_back {cs : Array Value} {off esz n : Nat} {row : Nat → List Value} (h5 : ∀ i, i < n → (row i).length = esz ∧ CellsAt rs cs (off + i * esz) (row i)) :
    ((∀ i, i < n → allL nad0 (row i) = true) → ∀ i, i < n → (row i).length = esz ∧ CellsAt (r.back rs ks M) cs (off + i * esz) (row i)) ∧ ∀ i, i < n → (mapL (unr0 ks M) (row i)).length = esz ∧ CellsAt (r.back rs ks M) cs (off + i * esz) (mapL (unr0 ks M) (row i)) := by
  refine ⟨fun hp i hi => ⟨(h5 i hi).1, fun k v hk => ?_⟩, fun i hi => ⟨by rw [mapL_length]; exact (h5 i hi).1, CellsAt_back hd ha (h5 i hi).2⟩⟩
  obtain ⟨v', g1, g2⟩ := (h5 i hi).2 k v hk
  have hpv := allL_iff.1 (hp i hi) v (List.mem_of_getElem? hk)
  exact ⟨v', g1, R0_nad hpv g2⟩
theorem BlkRel_back {w : World} {p : Place} {k : Blk} (h : BlkRel w rs p k) : BlkRel w (r.back rs ks M) p (unrB ks M k) := by
  cases k with
  | cells own esz c =>
    obtain ⟨h1, h2, cs, T, fz, h6, h3, h4, h5⟩ := h
    exact ⟨h1, h2, cs, T, fz, h6, h3, h4, CellsAt_back hd ha h5⟩
  | rows own pl esz n row =>
    obtain ⟨h1, h2, h0, hp, cs, T, fz, h6, h3, h4, h5⟩ := h
    cases pl with
    | true => exact ⟨h1, h2, h0, hp, cs, T, fz, h6, h3, h4, (rows_back (r := r) hd ha h5).1 (hp rfl)⟩
    | false => exact ⟨h1, h2, h0, (fun h => by cases h), cs, T, fz, h6, h3, h4, (rows_back (r := r) hd ha h5).2⟩
  | grow pl esz n row =>
    obtain ⟨h1, h2, h0, hp, cs, T, fz, h3, h4, h5⟩ := h
    cases pl with
    | true => exact ⟨h1, h2, h0, hp, cs, T, fz, h3, h4, (rows_back (r := r) hd ha h5).1 (hp rfl)⟩
    | false => exact ⟨h1, h2, h0, (fun h => by cases h), cs, T, fz, h3, h4, (rows_back (r := r) hd ha h5).2⟩
  | view pl esz n row =>
    obtain ⟨h1, h2, h0, hp, cs, T, fz, h3, h4, h5⟩ := h
    cases pl with
    | true => exact ⟨h1, h2, h0, hp, cs, T, fz, h3, h4, (rows_back (r := r) hd ha h5).1 (hp rfl)⟩
    | false => exact ⟨h1, h2, h0, (fun h => by cases h), cs, T, fz, h3, h4, (rows_back (r := r) hd ha h5).2⟩
  | _ => exact h
end
theorem unrB_no {ks : List Nat} {M : Nat} {k : Blk} : unrB ks M k = .no ↔ k = .no := by
  cases k with
  | rows own pl e n row => cases pl <;> simp [unrB]
  | grow pl e n row => cases pl <;> simp [unrB]
  | view pl e n row => cases pl <;> simp [unrB]
  | _ => simp [unrB]
theorem unrB_grow {ks : List Nat} {M : Nat} {k : Blk} (h : isGrow (some k)) : isGrow (some (unrB ks M k)) := by
  cases k with
  | grow pl e n row => cases pl <;> trivial
  | _ => exact h.elim
theorem RL_map_ren {r : Ren} {ks : List Nat} {l l' : List Value} (h : RL (R r) l l') : RL (R (r.via ks)) (mapL (renV ks) l) l' := RL_mapL (f := renV ks) (fun _ _ h => R_via h) h

/-- What is told of a call that is handed some blocks alone is told of it among others. -/
theorem MemSem.frame {P : Program} {f : FuncId} {args : List Value} {m ms : Mem} {v : Value} (ks : List Nat) (hd : noDup ks = true) (ha : allLt m.length ks = true) (hl : ks.length ≤ ms.length) (hnv : allB noViewB m = true)
    (h : MemSem P f (mapL (renV ks) args) (renM ks m ks) v ms) : MemSem P f args m (unrV ks m.length v) (framed ks m ms) := by
  refine ⟨h.1, fun w0 keep r args' w hargs hm => ?_⟩
  let oth : Nat → Prop := fun j => ∃ b p, b ∉ ks ∧ r b = some (some p) ∧ p.blk = j
  let kp : Keep := ⟨fun j => keep j ∨ oth j, keep.rd, fun j hj => Or.inl (keep.sub j hj)⟩
  have hv : ∀ {i : Nat} {q : Option Place}, (r.via ks) i = some q → ∃ b, ks[i]? = some b ∧ r b = some q := fun {i q} hq => by
    unfold Ren.via at hq
    split at hq
    · rename_i b hb; exact ⟨b, hb, hq⟩
    · cases hq
  have noV : ∀ {b : Nat} {p : Place}, r b = some (some p) → p.own = false → p.room = 0 := fun {b p} hb ho => by
    by_cases hz : p.room = 0
    · exact hz
    · exfalso
      obtain ⟨k, h1, h2⟩ := hm.blk b p hb
      have := h2.isView ho hz
      rw [allB_iff.1 hnv k (List.mem_of_getElem? h1)] at this
      cases this
  have hsm : MemRel w kp (r.via ks) (renM ks m ks) w := by
    have h0 := MemRel_via hm hd
    refine ⟨rfl, rfl, rfl, Nat.le_refl _, Nat.le_refl _, fun j hj => ?_, fun j _ => rfl, h0.none, h0.dead, h0.blk, fun i p hi ho hk => ?_, h0.read, fun i p hi ho hz => ?_, h0.sep, h0.inj⟩
    · rcases hj with hj | ⟨b, p, _, hb, rfl⟩
      · have := hm.klt j hj; have := hm.size; omega
      · obtain ⟨k, _, hk⟩ := hm.blk b p hb
        exact hk.lt
    · rcases hk with hk | ⟨c, q, hc, hq, he⟩
      · exact h0.own i p hi ho hk
      · obtain ⟨b, hb, hr⟩ := hv hi
        cases hqo : q.own with
        | true =>
          have := hm.inj b c p q hr hq ho hqo he.symm
          subst this
          exact hc (List.mem_of_getElem? hb)
        | false =>
          have k1 := hm.read c q hq hqo (noV hq hqo)
          rw [he] at k1
          exact hm.own b p hr ho (keep.sub _ k1)
    · obtain ⟨b, hb, hr⟩ := hv hi
      exact absurd (noV hr ho) hz
  refine (h.2 w kp (r.via ks) args' w (RL_map_ren hargs) hsm).mono ?_
  rintro e w' ⟨v', rs, rfl, g1, g2, g3⟩
  have hM : ∀ {b : Nat}, m.length ≤ b → r b = none := fun {b} hb => hm.none b (Or.inl (List.getElem?_eq_none hb))
  have hext : Ext r (r.back rs ks m.length) := by
    intro b
    unfold Ren.back
    by_cases hb : b ∈ ks
    · obtain ⟨i, hi⟩ := List.getElem?_of_mem hb
      have e1 : (r.via ks) i = r b := by simp [Ren.via, hi]
      simp only [idxN_of hd hi]
      have := g3 i
      rw [e1] at this
      exact this
    · simp only [idxN_not hb]
      split
      · exact Or.inr (Or.inl rfl)
      · exact Or.inl (hM (by omega))
  refine ⟨v', r.back rs ks m.length, rfl, R_back hd ha g1, ?_, hext⟩
  -- the memory
  have hget : ∀ b : Nat, (framed ks m ms)[b]? = match idxN b ks 0 with
      | some i => (ms[i]?).map (unrB ks m.length)
      | none => if b < m.length then m[b]? else (ms[ks.length + (b - m.length)]?).map (unrB ks m.length) := by
    intro b
    unfold framed
    by_cases hb : b ∈ ks
    · obtain ⟨i, hi⟩ := List.getElem?_of_mem hb
      have hlt := allLt_iff ha hi
      simp only [idxN_of hd hi]
      rw [List.getElem?_append_left (by rw [setK_length]; exact hlt)]
      exact setK_at ks ms m i hd ha hl hi
    · simp only [idxN_not hb]
      split
      · rename_i hlt
        rw [List.getElem?_append_left (by rw [setK_length]; exact hlt)]
        exact setK_not ks ms m hb
      · rename_i hlt
        rw [List.getElem?_append_right (by rw [setK_length]; omega), setK_length, mapB_get, List.getElem?_drop]
  have cases3 : ∀ {b : Nat} {q : Option Place}, (r.back rs ks m.length) b = some q → (∃ i, rs i = some q ∧ (framed ks m ms)[b]? = (ms[i]?).map (unrB ks m.length) ∧ unr ks m.length i = b) ∨ (b ∉ ks ∧ r b = some q ∧ (framed ks m ms)[b]? = m[b]? ∧ b < m.length) := by
    intro b q hq
    have hg := hget b
    unfold Ren.back at hq
    by_cases hb : b ∈ ks
    · obtain ⟨i, hi⟩ := List.getElem?_of_mem hb
      simp only [idxN_of hd hi] at hq hg
      exact Or.inl ⟨i, hq, hg, by simp [unr, hi]⟩
    · simp only [idxN_not hb] at hq hg
      split at hq
      · rename_i hlt
        rw [if_pos hlt] at hg
        exact Or.inr ⟨hb, hq, hg, hlt⟩
      · rename_i hlt
        rw [if_neg hlt] at hg
        refine Or.inl ⟨_, hq, hg, ?_⟩
        unfold unr
        rw [List.getElem?_eq_none (by omega)]
        simp only
        omega
  have hothk : ∀ {b : Nat} {p : Place}, b ∉ ks → r b = some (some p) → kp p.blk := fun {b p} hb hp => Or.inr ⟨b, p, hb, hp, rfl⟩
  refine ⟨g2.os.trans hm.os, g2.tape.trans hm.tape, g2.output.trans hm.output, Nat.le_trans hm.drawn g2.drawn, Nat.le_trans hm.size g2.size, hm.klt, fun j hj => ?_, fun b hb => ?_, fun b hb => ?_, fun b p hb => ?_, fun b p hb ho => ?_, fun b p hb ho hz => ?_, fun b p hb ho hz => ?_, fun b c p q hb hc hp hz hq he => ?_, fun b c p q hb hc hp hq he => ?_⟩
  · rw [g2.kept j (Or.inl hj)]; exact hm.kept j hj
  · rw [hget b] at hb
    unfold Ren.back
    by_cases hbk : b ∈ ks
    · obtain ⟨i, hi⟩ := List.getElem?_of_mem hbk
      simp only [idxN_of hd hi] at hb ⊢
      refine g2.none i ?_
      cases hmi : ms[i]? with
      | none => exact Or.inl rfl
      | some k =>
        rw [hmi] at hb
        simp only [Option.map_some] at hb
        rcases hb with hb | hb
        · cases hb
        · simp only [Option.some.injEq] at hb
          exact Or.inr (by rw [unrB_no.1 hb])
    · simp only [idxN_not hbk] at hb ⊢
      split
      · rename_i hlt
        rw [if_pos hlt] at hb
        exact hm.none b hb
      · rename_i hlt
        rw [if_neg hlt] at hb
        refine g2.none _ ?_
        cases hmi : ms[ks.length + (b - m.length)]? with
        | none => exact Or.inl rfl
        | some k =>
          rw [hmi] at hb
          simp only [Option.map_some] at hb
          rcases hb with hb | hb
          · cases hb
          · simp only [Option.some.injEq] at hb
            exact Or.inr (by rw [unrB_no.1 hb])
  · rcases cases3 hb with ⟨i, h1, h2, _⟩ | ⟨h1, h2, h3, _⟩
    · rw [h2, g2.dead i h1]; rfl
    · rw [h3]; exact hm.dead b h2
  · rcases cases3 hb with ⟨i, h1, h2, _⟩ | ⟨h1, h2, h3, _⟩
    · obtain ⟨k, h4, h5⟩ := g2.blk i p h1
      exact ⟨unrB ks m.length k, by rw [h2, h4]; rfl, BlkRel_back hd ha h5⟩
    · obtain ⟨k, h4, h5⟩ := hm.blk b p h2
      exact ⟨k, by rw [h3]; exact h4, h5.mono (g2.kept _ (hothk h1 h2)) hext⟩
  · rcases cases3 hb with ⟨i, h1, h2, _⟩ | ⟨h1, h2, h3, _⟩
    · exact fun hk => g2.own i p h1 ho (Or.inl hk)
    · exact hm.own b p h2 ho
  · rcases cases3 hb with ⟨i, h1, h2, _⟩ | ⟨h1, h2, h3, _⟩
    · exact g2.read i p h1 ho hz
    · exact hm.read b p h2 ho hz
  · rcases cases3 hb with ⟨i, h1, h2, _⟩ | ⟨h1, h2, h3, _⟩
    · exact fun hk => g2.vw i p h1 ho hz (Or.inl hk)
    · exact hm.vw b p h2 ho hz
  · rcases cases3 hb with ⟨i, h1, h2, _⟩ | ⟨h1, h2, h3, _⟩
    · rcases cases3 hc with ⟨j, k1, k2, k3⟩ | ⟨k1, k2, k3, _⟩
      · obtain ⟨s1, s2⟩ := g2.sep i j p q h1 k1 hp hz hq he
        rw [k2]
        cases hmj : ms[j]? with
        | none => rw [hmj] at s1; exact s1.elim
        | some k => rw [hmj] at s1; exact ⟨unrB_grow s1, s2⟩
      · exfalso
        refine g2.vw i p h1 hp hz ?_
        rw [← he]; exact hothk k1 k2
    · exact absurd (noV h2 hp) hz
  · rcases cases3 hb with ⟨i, h1, h2, h3⟩ | ⟨h1, h2, h3, _⟩
    · rcases cases3 hc with ⟨j, k1, k2, k3⟩ | ⟨k1, k2, k3, _⟩
      · have := g2.inj i j p q h1 k1 hp hq he
        subst this
        rw [← h3, ← k3]
      · exfalso
        refine g2.own i p h1 hp ?_
        rw [he]; exact hothk k1 k2
    · rcases cases3 hc with ⟨j, k1, k2, k3⟩ | ⟨k1, k2, k3, _⟩
      · exfalso
        refine g2.own j q k1 hq ?_
        rw [← he]; exact hothk h1 h2
      · exact hm.inj b c p q h2 k2 hp hq he
def dedupN : List Nat → List Nat → List Nat
  | [], _ => []
  | k :: l, seen => match hasN k seen with
    | true => dedupN l seen
    | false => k :: dedupN l (k :: seen)
def idsIn : List Value → List Nat
  | [] => []
  | v :: l => match adrOf v with
    | some b => b :: idsIn l
    | none => idsIn l
def catN : List Nat → List Nat → List Nat
  | [], l => l
  | k :: ks, l => k :: catN ks l
def cellIds (m : Mem) : List Nat → List Nat
  | [] => []
  | k :: l => match m[k]? with
    | some (.cells _ _ c) => catN (idsIn c) (cellIds m l)
    | _ => cellIds m l
def ksOf (args : List Value) (m : Mem) : List Nat := dedupN (catN (idsIn args) (cellIds m (idsIn args))) []
/-- What is told of a call where nothing is looked at any more as it was. -/
theorem MemSem.unview {P : Program} {f : FuncId} {args : List Value} {m m' : Mem} {v : Value} (h : MemSem P f args (killV m) v m') : MemSem P f args m v m' :=
  ⟨h.1, fun w0 keep r args' w ha hm => (h.2 w0 keep r.noV args' w (RL.mono (fun _ _ => R.ext r.noV_ext) ha) hm.unview).mono fun _ _ ⟨v', r', he, h1, h2, h3⟩ => ⟨v', r', he, h1, h2, r.noV_ext.trans h3⟩⟩
theorem MemSem.fresh {P : Program} {f : FuncId} {args : List Value} {m m' : Mem} {v : Value} (h : MemSem P f args (thaw (killV m)) v m') : MemSem P f args m v m' :=
  MemSem.unview ⟨h.1, fun w0 keep r args' w ha hm => h.2 w0 keep r args' w ha (hm.thawed (killV_none m))⟩
/-- What is told of a function that is handed some blocks alone, told of it among others. -/
def frameG (S : List Value → Mem → Option (Ans (Value × Mem))) (args : List Value) (m : Mem) : Option (Ans (Value × Mem)) :=
  forceN (ksOf args m) fun ks => match noDup ks && (allLt m.length ks && allB noViewB m) with
    | true => forceL (mapL (renV ks) args) fun ags => forceM (renM ks m ks) fun ms => match S ags ms with
      | some ans => some (ans.bind fun vm => match Nat.ble ks.length vm.2.length with
        | true => .out (unrV ks m.length vm.1, framed ks m vm.2)
        | false => .fail)
      | none => none
    | false => none
def frameF (S : List Value → Mem → Option (Ans (Value × Mem))) (args : List Value) (m : Mem) : Option (Ans (Value × Mem)) := forceM (thaw (killV m)) fun m => frameG S args m
theorem frameG_ok {P : Program} {f : FuncId} {S : List Value → Mem → Option (Ans (Value × Mem))} (h : ∀ args m ans v m', S args m = some ans → ans.res = some (v, m') → MemSem P f args m v m') {args : List Value} {m m' : Mem} {ans : Ans (Value × Mem)} {v : Value}
    (ha : frameG S args m = some ans) (hr : ans.res = some (v, m')) : MemSem P f args m v m' := by
  unfold frameG at ha
  rw [forceN_eq] at ha
  split at ha
  · rename_i hb
    rw [Bool.and_eq_true, Bool.and_eq_true] at hb
    rw [forceL_eq, forceM_eq] at ha
    split at ha
    · rename_i a2 hS
      simp only [Option.some.injEq] at ha
      subst ha
      obtain ⟨⟨u, mu⟩, h1, h2⟩ := Ans.bind_some hr
      simp only at h2
      split at h2
      · rename_i hle
        simp only [Ans.res, Option.some.injEq, Prod.mk.injEq] at h2
        obtain ⟨rfl, rfl⟩ := h2
        exact MemSem.frame _ hb.1 hb.2.1 (Nat.le_of_ble_eq_true hle) hb.2.2 (h _ _ _ _ _ hS h1)
      · simp [Ans.res] at h2
    · cases ha
  · cases ha
theorem frameF_ok {P : Program} {f : FuncId} {S : List Value → Mem → Option (Ans (Value × Mem))} (h : ∀ args m ans v m', S args m = some ans → ans.res = some (v, m') → MemSem P f args m v m') {args : List Value} {m m' : Mem} {ans : Ans (Value × Mem)} {v : Value}
    (ha : frameF S args m = some ans) (hr : ans.res = some (v, m')) : MemSem P f args m v m' := by
  unfold frameF at ha
  rw [forceM_eq] at ha
  exact (frameG_ok h ha hr).fresh
def Cx.addF (C : Cx) (f : FuncId) (S : List Value → Mem → Option (Ans (Value × Mem))) : Cx := C.addM f (frameF S)
theorem Cx.addF_ok {C : Cx} (hC : CxOk C) {f : FuncId} {S : List Value → Mem → Option (Ans (Value × Mem))} (h : ∀ args m ans v m', S args m = some ans → ans.res = some (v, m') → MemSem C.P f args m v m') : CxOk (C.addF f S) :=
  Cx.addM_ok hC fun _ _ _ _ _ ha hr => frameF_ok h ha hr
def valL : Value → List Value
  | .tuple vs => vs.toList
  | v => [v]
/-- Blocks that were there keep their numbers; of those that were made the named ones are told. -/
def tidyA (B : Nat) (sp : List From) (vm : Value × Mem) : Ans (Value × Mem) :=
  forceN (keysOf ⟨valL vm.1, vm.2⟩ sp) fun ks => match noDup ks && idsTo B 0 ks with
    | true => forceV (renV ks vm.1) fun v => forceM (thaw (renM ks (killV vm.2) ks)) fun m => match allB noViewB (renM ks (killV vm.2) ks) with
      | true => .out (v, m)
      | false => .fail
    | false => .fail
theorem MemSem.tidy {P : Program} {f : FuncId} {args : List Value} {m m' m2 : Mem} {v v2 : Value} (h : MemSem P f args m v m') {sp : List From} (ht : (tidyA m.length sp (v, m')).res = some (v2, m2)) : MemSem P f args m v2 m2 := by
  refine ⟨h.1, fun w0 keep r args' w ha hm => (h.2 w0 keep r args' w ha hm).mono ?_⟩
  rintro e w' ⟨v', r', rfl, g1, g2, g3⟩
  unfold tidyA at ht
  rw [forceN_eq] at ht
  split at ht
  · rename_i hb
    rw [Bool.and_eq_true] at hb
    rw [forceV_eq, forceM_eq] at ht
    split at ht
    · rename_i hv
      simp only [Ans.res, Option.some.injEq, Prod.mk.injEq] at ht
      obtain ⟨rfl, rfl⟩ := ht
      have hx : Ext r r'.noV := g3.trans r'.noV_ext
      refine ⟨v', r'.noV.via (keysOf ⟨valL v, m'⟩ sp), rfl, R_via (R.ext r'.noV_ext g1), (MemRel_via g2.unview hb.1).thawed hv, fun b => ?_⟩
      by_cases hlt : b < m.length
      · have := idsTo_spec hb.2 (Nat.zero_le b) hlt
        simp only [Nat.sub_zero] at this
        have e1 : (r'.noV.via (keysOf ⟨valL v, m'⟩ sp)) b = r'.noV b := by simp [Ren.via, this]
        rw [e1]
        exact hx b
      · exact Or.inl (hm.none b (Or.inl (List.getElem?_eq_none (by omega))))
    · simp [Ans.res] at ht
  · simp [Ans.res] at ht
def exT (C : Cx) (n : Nat) (fn : Func) (args : List Value) (m : Mem) (sp : List From) : Option (Value × Mem) := ((exFunA C n fn args m).bind (tidyA m.length sp)).res
theorem exT_ok {C : Cx} (hC : CxOk C) {n : Nat} {f : FuncId} {fn : Func} {args : List Value} {m m' : Mem} {v : Value} {sp : List From} (hf : C.P.funcs[f]? = some fn) (hok : okFunc C.P f = true) (h : exT (C.at f) n fn args m sp = some (v, m')) : MemSem C.P f args m v m' := by
  unfold exT at h
  obtain ⟨⟨u, mu⟩, h1, h2⟩ := Ans.bind_some h
  exact (exFunA_sem (C := C.at f) (hC.at f) hf (okFunc_name hok hf) (Or.inl rfl) h1).tidy h2

def rowsLike (n : Nat) (f g : Nat → List Value) : Prop := ∀ i, i < n → f i = g i
def soft : Value → Value
  | .float k b => aF k b
  | .complex k a b => aC k a b
  | v => v
theorem R0_soft {r : Ren} {v v' : Value} (h : R0 r v v') : R0 r (soft v) v' := by
  cases v with
  | float k b => have h' : v' = .float k b := h; exact ⟨b, h', simF.refl _ _⟩
  | complex k a b => have h' : v' = .complex k a b := h; exact ⟨a, b, h', simF.refl _ _, simF.refl _ _⟩
  | _ => exact h
theorem nad0_soft {v : Value} (h : nad0 v = true) : nad0 (soft v) = true := by
  cases v with
  | float k b => rfl
  | complex k a b => rfl
  | _ => exact h
/-- Blocks that tell the same. -/
inductive Like : Blk → Blk → Prop
  | refl (b : Blk) : Like b b
  | rows {own pl : Bool} {e n : Nat} {f g : Nat → List Value} (h : rowsLike n f g) : Like (.rows own pl e n f) (.rows own pl e n g)
  | grow {pl : Bool} {e n : Nat} {f g : Nat → List Value} (h : rowsLike n f g) : Like (.grow pl e n f) (.grow pl e n g)
  | soft {own pl : Bool} {e n : Nat} {f g : Nat → List Value} (h : ∀ i, i < n → g i = mapL soft (f i)) : Like (.rows own pl e n f) (.rows own pl e n g)
theorem BlkRel.like {w : World} {r : Ren} {p : Place} {k k' : Blk} (h : BlkRel w r p k) (hl : Like k k') : BlkRel w r p k' := by
  cases hl with
  | refl => exact h
  | rows hf =>
    obtain ⟨h1, h2, h0, hp, cs, T, fz, h6, h3, h4, h5⟩ := h
    exact ⟨h1, h2, h0, fun hpl i hi => by rw [← hf i hi]; exact hp hpl i hi, cs, T, fz, h6, h3, h4, fun i hi => by rw [← hf i hi]; exact h5 i hi⟩
  | grow hf =>
    obtain ⟨h1, h2, h0, hp, cs, T, fz, h3, h4, h5⟩ := h
    exact ⟨h1, h2, h0, fun hpl i hi => by rw [← hf i hi]; exact hp hpl i hi, cs, T, fz, h3, h4, fun i hi => by rw [← hf i hi]; exact h5 i hi⟩
  | soft hf =>
    obtain ⟨h1, h2, h0, hp, cs, T, fz, h6, h3, h4, h5⟩ := h
    refine ⟨h1, h2, h0, fun hpl i hi => ?_, cs, T, fz, h6, h3, h4, fun i hi => ?_⟩
    · rw [hf i hi]
      refine allL_iff.2 fun x hx => ?_
      obtain ⟨k, hk⟩ := List.getElem?_of_mem hx
      obtain ⟨u, hu, rfl⟩ := mapL_get hk
      exact nad0_soft (allL_iff.1 (hp hpl i hi) u (List.mem_of_getElem? hu))
    · rw [hf i hi, mapL_length]
      refine ⟨(h5 i hi).1, fun k v hk => ?_⟩
      obtain ⟨u, hu, rfl⟩ := mapL_get hk
      obtain ⟨v', g1, g2⟩ := (h5 i hi).2 k u hu
      exact ⟨v', g1, R0_soft g2⟩
theorem Like.no {k k' : Blk} (h : Like k k') : k' = .no ↔ k = .no := by cases h <;> simp
theorem Like.isGrow {k k' : Blk} (h : Like k k') (hg : isGrow (some k)) : isGrow (some k') := by
  cases h with
  | refl => exact hg
  | rows hf => exact hg
  | grow hf => trivial
  | soft hf => exact hg
theorem Like.gone {k k' : Blk} (h : Like k k') : k' = .gone ↔ k = .gone := by cases h <;> simp
def LikeL : Mem → Mem → Prop
  | [], [] => True
  | a :: l, b :: l' => Like a b ∧ LikeL l l'
  | _, _ => False
theorem LikeL.get : ∀ {m m' : Mem}, LikeL m m' → ∀ (i : Nat), (m[i]? = none ∧ m'[i]? = none) ∨ ∃ k k', m[i]? = some k ∧ m'[i]? = some k' ∧ Like k k'
  | [], [], _, i => Or.inl ⟨by simp, by simp⟩
  | a :: l, b :: l', h, 0 => Or.inr ⟨a, b, rfl, rfl, h.1⟩
  | a :: l, b :: l', h, i + 1 => by simp only [List.getElem?_cons_succ]; exact LikeL.get h.2 i
  | [], _ :: _, h, _ => h.elim
  | _ :: _, [], h, _ => h.elim
theorem MemRel.like {w0 w : World} {keep : Keep} {r : Ren} {m m' : Mem} (h : MemRel w0 keep r m w) (hl : LikeL m m') : MemRel w0 keep r m' w := by
  refine ⟨h.os, h.tape, h.output, h.drawn, h.size, h.klt, h.kept, fun b hb => ?_, fun b hb => ?_, fun b p hb => ?_, h.own, h.read, h.vw, fun b c p q hb hc hp hz hq he => ?_, h.inj⟩
  · rcases hl.get b with ⟨h1, h2⟩ | ⟨k, k', h1, h2, h3⟩
    · exact h.none b (Or.inl h1)
    · rw [h2] at hb
      rcases hb with hb | hb
      · cases hb
      · simp only [Option.some.injEq] at hb
        exact h.none b (Or.inr (by rw [h1, h3.no.1 hb]))
  · rcases hl.get b with ⟨h1, h2⟩ | ⟨k, k', h1, h2, h3⟩
    · have := h.dead b hb; rw [h1] at this; cases this
    · have := h.dead b hb
      rw [h1] at this
      simp only [Option.some.injEq] at this
      rw [h2, h3.gone.2 this]
  · obtain ⟨k0, g1, g2⟩ := h.blk b p hb
    rcases hl.get b with ⟨h1, h2⟩ | ⟨k, k', h1, h2, h3⟩
    · rw [h1] at g1; cases g1
    · rw [h1] at g1
      simp only [Option.some.injEq] at g1
      subst g1
      exact ⟨k', h2, g2.like h3⟩
  · obtain ⟨g1, g2⟩ := h.sep b c p q hb hc hp hz hq he
    rcases hl.get c with ⟨h1, h2⟩ | ⟨k, k', h1, h2, h3⟩
    · rw [h1] at g1; exact g1.elim
    · rw [h1] at g1
      rw [h2]
      exact ⟨h3.isGrow g1, g2⟩
theorem MemSem.like {P : Program} {f : FuncId} {args : List Value} {m m2 m' : Mem} {v : Value} (h : MemSem P f args m2 v m') (hl : LikeL m m2) : MemSem P f args m v m' :=
  ⟨h.1, fun w0 keep r args' w ha hm => h.2 w0 keep r args' w ha (hm.like hl)⟩
/-- States that tell the same. -/
def StLike (s s' : St) : Prop := s.tmps = s'.tmps ∧ LikeL s.mem s'.mem
theorem LikeL.refl : ∀ (m : Mem), LikeL m m
  | [] => trivial
  | b :: m => ⟨.refl b, LikeL.refl m⟩
theorem StLike.refl (s : St) : StLike s s := ⟨rfl, LikeL.refl s.mem⟩
theorem Rel.like {w0 : World} {keep : Keep} {r0 : Ren} {s s' : St} {a : Act} {w : World} (h : Rel w0 keep r0 s a w) (hl : StLike s s') : Rel w0 keep r0 s' a w := by
  obtain ⟨r, hx, h1, h2, h3⟩ := h
  exact ⟨r, hx, h1, by rw [← hl.1]; exact h2, h3.like hl.2⟩
theorem MemSem.likes {P : Program} {f : FuncId} {args : List Value} {m m' m2 : Mem} {v : Value} (h : MemSem P f args m v m') (hl : LikeL m' m2) : MemSem P f args m v m2 :=
  ⟨h.1, fun w0 keep r args' w ha hm => (h.2 w0 keep r args' w ha hm).mono fun _ _ ⟨v', r', he, h1, h2, h3⟩ => ⟨v', r', he, h1, h2.like hl, h3⟩⟩
theorem LoopSem.unview {P : Program} {B : Nat} {x : Code} {tm : List Value} {m : Mem} {s : St} {e : Exit} (h : LoopSem P B x ⟨tm, killV m⟩ e s) : LoopSem P B x ⟨tm, m⟩ e s := by
  intro Q w0 keep r0 a w hB hQ hr
  refine h Q w0 keep r0 a w hB hQ ?_
  obtain ⟨r, hx, h1, h2, h3⟩ := hr
  exact ⟨r.noV, hx.trans r.noV_ext, h1, RL.mono (fun _ _ => R.ext r.noV_ext) h2, h3.unview⟩
theorem LoopSem.likes {P : Program} {B : Nat} {x : Code} {st s s2 : St} {e : Exit} (h : LoopSem P B x st e s) (hl : StLike s s2) : LoopSem P B x st e s2 :=
  fun Q w0 keep r0 a w hB hQ hr => h Q w0 keep r0 a w hB (fun a w hs => hQ a w (hs.like hl)) hr
theorem LoopSem.fresh {P : Program} {B : Nat} {x : Code} {tm : List Value} {m : Mem} {s : St} {e : Exit} (h : LoopSem P B x ⟨tm, thaw (killV m)⟩ e s) : LoopSem P B x ⟨tm, m⟩ e s := by
  refine LoopSem.unview ?_
  intro Q w0 keep r0 a w hB hQ hr
  refine h Q w0 keep r0 a w hB hQ ?_
  obtain ⟨r, hx, h1, h2, h3⟩ := hr
  exact ⟨r, hx, h1, h2, h3.thawed (killV_none m)⟩
end Go.Proofs.Ytjhijkdicmbbiaa.Vx
