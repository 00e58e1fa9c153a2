/-
  The executor is sound: code, calls, loops, tables. Nothing here is trusted.
-/
import Derived.Test.YtokdjjdmmahbiaaVyA
import Derived.LoopN
namespace Go.Proofs.Ytokdjjdmmahbiaa.Vx
open Go Go.RowKit

/-- Inside a loop, ahead of its body. -/
def LoopsTo (P : Program) (c : Code) (Q : Exit → Act → World → Prop) (a : Act) (w : World) : Prop :=
  ∀ (b : Frame) (k : List Item) (cs : List Frame), ∃ e a' w', Q e a' w' ∧ Arrives P (lone (b.at a (.code c :: .inLoop c :: k)) cs w) b k cs e a' w'
theorem LoopsTo.wp {P : Program} {c : Code} {Q : Exit → Act → World → Prop} {a : Act} {w : World} (h : LoopsTo P c Q a w) : (Code.loop c).wp P Q a w := fun b k cs => by
  obtain ⟨e, a', w', hq, harr⟩ := h b k cs
  exact ⟨e, a', w', hq, .of_steps (.one step_loop) harr⟩
theorem LoopsTo.round {P : Program} {c : Code} {Q : Exit → Act → World → Prop} {a : Act} {w : World} (h : c.wp P (Exit.then (LoopsTo P c Q) Q) a w) : LoopsTo P c Q a w := fun b k cs => by
  obtain ⟨e, a₁, w₁, hq, harr⟩ := h b (.inLoop c :: k) cs
  cases e with
  | normal =>
    obtain ⟨e₂, a₂, w₂, hq₂, harr₂⟩ := hq b k cs
    exact ⟨e₂, a₂, w₂, hq₂, .of_steps (Steps.trans harr (.one step_inLoop)) harr₂⟩
  | exit id => exact ⟨_, a₁, w₁, hq, .pass (x := .inLoop c) rfl (fun _ _ => .inl (by simp)) harr⟩
  | goto l => exact ⟨_, a₁, w₁, hq, .pass (x := .inLoop c) rfl (fun _ _ => .inl (by simp)) harr⟩
  | ret => exact ⟨_, a₁, w₁, hq, .pass (x := .inLoop c) rfl (fun _ _ => .inl (by simp)) harr⟩
  | panic ch => exact ⟨_, a₁, w₁, hq, .pass (x := .inLoop c) rfl (fun _ _ => .inl (by simp)) harr⟩
  | outgrown => exact ⟨_, a₁, w₁, hq, .pass (x := .inLoop c) rfl (fun _ _ => .inl (by simp)) harr⟩

/-- What a loop comes to, in a function that was entered with at most B blocks. -/
def LoopSem (P : Program) (B : Nat) (x : Code) (st : St) (e : Exit) (s : St) : Prop :=
  ∀ (Q : Exit → Act → World → Prop) (w0 : World) (keep : Keep) (r0 : Ren) (a : Act) (w : World), (∀ b, B ≤ b → r0 b = none) → (∀ a w, Rel w0 keep r0 s a w → Q e a w) → Rel w0 keep r0 st a w → LoopsTo P x Q a w
/-- What code comes to. -/
def CodeSem (P : Program) (B : Nat) (c : Code) (st : St) (e : Exit) (s : St) : Prop :=
  ∀ (Q : Exit → Act → World → Prop) (w0 : World) (keep : Keep) (r0 : Ren) (a : Act) (w : World), (∀ b, B ≤ b → r0 b = none) → (∀ a w, Rel w0 keep r0 s a w → Q e a w) → Rel w0 keep r0 st a w → c.wp P Q a w

/-- What a table's functions and loops, and the functions that are walked into, must be. -/
structure CxOk (C : Cx) : Prop where
  mixed : C.P.follows .mixedOrders = true
  tbl : ∀ f args v, (∀ x ∈ args, plain x = true) → C.tbl f args = some (true, v) → plain v = true → PlainSem C.P f args v
  tbm : ∀ f args m ans v m', C.tbm f args m = some ans → ans.res = some (v, m') → MemSem C.P f args m v m'
  keys : ∀ kt n, C.keys kt = some n → KeyOk C.P kt n
  inl : ∀ f fn, C.inl f = some fn → C.P.funcs[f]? = some fn ∧ (fn.name == "runtime.NumGoroutine") = false
  lp : ∀ f fn b, C.P.funcs[f]? = some fn → fn.body = some b → ∀ x ∈ loopsIn b, ∀ B st ans e s, C.lp f (loopKey x) B st = some ans → ans.res = some (e, s) → LoopSem C.P B x st e s
  rd : ∀ f, C.rd f = 1 → ∀ args m ans v m', C.tbm f args m = some ans → ans.res = some (v, m') → m' = m ∧ ∀ (q : Nat) k, m[q]? = some .no → ∃ ans', C.tbm f args (m.set q k) = some ans' ∧ ans'.res = some (v, m.set q k)
  rd2 : ∀ f, C.rd f = 2 → ∀ args m ans v m', C.tbm f args m = some ans → ans.res = some (v, m') → ∃ new, m' = m ++ new ∧ ∀ (q : Nat) k, noViewB k = true → m[q]? = some .no → ∃ ans', C.tbm f args (m.set q k) = some ans' ∧ ans'.res = some (v, m.set q k ++ new)
  ext : ExtOk C.P C.ext
theorem CxOk.at {C : Cx} (h : CxOk C) (f : FuncId) : CxOk (C.at f) := ⟨h.mixed, h.tbl, h.tbm, h.keys, h.inl, h.lp, h.rd, h.rd2, h.ext⟩
theorem CxOk.into {C : Cx} (h : CxOk C) (f : FuncId) (n : Nat) : CxOk (C.into f n) := ⟨h.mixed, h.tbl, h.tbm, h.keys, h.inl, h.lp, h.rd, h.rd2, h.ext⟩

/-- The loops of a piece of code are those of the function that is walked through, or none of that function's is told. -/
def InBody (C : Cx) (c : Code) : Prop := (∃ fn b, C.P.funcs[C.cur]? = some fn ∧ fn.body = some b ∧ ∀ x ∈ loopsIn c, x ∈ loopsIn b) ∨ ∀ k n st, C.lp C.cur k n st = none
theorem InBody.sub {C : Cx} {c d : Code} (h : InBody C c) (hs : ∀ x ∈ loopsIn d, x ∈ loopsIn c) : InBody C d := by
  rcases h with ⟨fn, b, h1, h2, h3⟩ | h
  · exact Or.inl ⟨fn, b, h1, h2, fun x hx => h3 x (hs x hx)⟩
  · exact Or.inr h

def resSem (tmps : Array Value) : ResultVar → Sem Value
  | .tmp t => pure (tmps.getD t undef)
  | .cell b t => do loadVar t (← asAddr (tmps.getD b undef))
theorem resOf_run {P : Program} {w0 : World} {keep : Keep} {r : Ren} {st : St} {a : Act} {w : World} (hr : RelAt w0 keep r st a w) {x : ResultVar} {v : Value} (h : resOf st P x = some v) : ∃ v', (resSem a.tmps x).run P w = .ok v' w ∧ R r v v' := by
  cases x with
  | tmp t =>
    simp only [resOf, Option.some.injEq] at h
    subst h
    exact ⟨_, rfl, eval_R hr (.tmp t)⟩
  | cell b t =>
    simp only [resOf] at h
    split at h
    · rename_i q hq
      split at h
      · rename_i k hk
        have hx := eval_R hr (.tmp b)
        rw [hq] at hx
        obtain ⟨q', hq', hl⟩ := R_ptr hx
        obtain ⟨p, hp, rfl, hh, hkr⟩ := live_of (tm := st.tmps) (m := st.mem) hr hk hl (loadB_gone h)
        obtain ⟨v', g1, g2⟩ := load_run hkr h hh
        refine ⟨v', ?_, g2⟩
        have hq2 : a.tmps.getD b undef = .pointer (some (p.addr q)) := hq'
        simp only [resSem, hq2, asAddr, Sem.run_bind, Sem.run_pure, Result.andThen_ok, g1]
      · cases h
    · cases h
theorem results_eq (fn : Func) (tmps : Array Value) : results fn tmps = (do let vs ← fn.results.mapM (resSem tmps); pure (if h : vs.size = 1 then vs[0] else .tuple vs)) := by
  unfold results
  have : (fun x => (match x with
      | .tmp t => pure (tmps.getD t undef)
      | .cell b t => do loadVar t (← asAddr (tmps.getD b undef)) : Sem Value)) = resSem tmps := by funext x; cases x <;> rfl
  rw [← this]
  rfl
theorem results_run {P : Program} {w0 : World} {keep : Keep} {r : Ren} {st : St} {a : Act} {w : World} (hr : RelAt w0 keep r st a w) {fn : Func} {v : Value} (h : resV P fn st = some v) (hnt : ∀ vs, resAll P st fn.results.toList = some vs → ∀ x ∈ vs, ∀ ws, x ≠ .tuple ws) : ∃ v', (results fn a.tmps).run P w = .ok v' w ∧ R r v v' := by
  have hall : ∀ (l : List ResultVar) (vs : List Value), resAll P st l = some vs → ∃ vs', (l.mapM (resSem a.tmps)).run P w = .ok vs' w ∧ RL (R r) vs vs' := by
    intro l
    induction l with
    | nil => intro vs hv; simp [resAll] at hv; subst hv; exact ⟨[], rfl, trivial⟩
    | cons x l ih =>
      intro vs hv
      simp only [resAll] at hv
      cases hx : resOf st P x with
      | none => simp [hx] at hv
      | some u =>
        simp only [hx] at hv
        cases hl : resAll P st l with
        | none => simp [hl] at hv
        | some us =>
          simp only [hl, Option.some.injEq] at hv
          subst hv
          obtain ⟨u', h1, h2⟩ := resOf_run hr hx
          obtain ⟨us', h3, h4⟩ := ih us hl
          refine ⟨u' :: us', ?_, h2, h4⟩
          rw [List.mapM_cons]
          simp only [Sem.run_bind, h1, Result.andThen_ok, h3, Sem.run_pure]
  unfold resV at h
  cases hv : resAll P st fn.results.toList with
  | none => simp [hv] at h
  | some vs =>
    obtain ⟨vs', hm, hrl⟩ := hall _ vs hv
    rw [hv] at h
    have hnt' := hnt vs hv
    have key : (results fn a.tmps).run P w = .ok (if h : vs'.toArray.size = 1 then vs'.toArray[0] else .tuple vs'.toArray) w := by
      rw [results_eq]
      simp only [Array.mapM_eq_mapM_toList, Sem.run_bind]
      rw [map_eq_pure_bind]
      simp only [Sem.run_bind, hm, Result.andThen_ok, Sem.run_pure]
    match vs, vs', h, hrl, hnt', key with
    | [], [], h, _, _, key => simp at h; subst h; exact ⟨_, key, ⟨#[], rfl, trivial⟩⟩
    | [u], [u'], h, hrl, _, key => simp at h; subst h; exact ⟨_, key, hrl.1⟩
    | u :: u2 :: us, u' :: u2' :: us', h, hrl, hnt', key =>
      simp only [Option.some.injEq] at h
      subst h
      refine ⟨_, key, ?_⟩
      have : ¬ (u' :: u2' :: us').toArray.size = 1 := by simp
      rw [dif_neg this]
      refine ⟨_, rfl, ?_⟩
      have conv : ∀ (l l' : List Value), RL (R r) l l' → (∀ x ∈ l, ∀ ws, x ≠ .tuple ws) → RL (R1 r) l l' := by
        intro l
        induction l with
        | nil => intro l' h _; cases l' with
          | nil => trivial
          | cons y l' => exact h.elim
        | cons x l ih => intro l' h hn; cases l' with
          | nil => exact h.elim
          | cons y l' => exact ⟨(R1_R (hn x (by simp))).1 h.1, ih l' h.2 fun z hz => hn z (by simp [hz])⟩
      exact conv _ _ hrl hnt'
    | [], _ :: _, _, h, _, _ => exact h.elim
    | [_], [], _, h, _, _ => exact h.elim
    | [_], _ :: _ :: _, _, h, _, _ => exact h.2.elim
    | _ :: _ :: _, [], _, h, _, _ => exact h.elim
    | _ :: _ :: _, [_], _, h, _, _ => exact h.2.elim

theorem RL_const (r : Ren) : ∀ (n : Nat), RL (R r) (List.replicate n undef) (List.replicate n undef)
  | 0 => trivial
  | n + 1 => ⟨R_undef r, RL_const r n⟩
theorem enter_rel {fn : Func} {args args' : List Value} {m : Mem} {w0 : World} {keep : Keep} {r : Ren} {w : World} (ha : RL (R r) args args') (hm : MemRel w0 keep r m w) : RelAt w0 keep r (enter fn args m) { tmps := args'.toArray ++ Array.replicate (fn.ntmps - args'.toArray.size) undef, defers := [] } w := by
  refine ⟨rfl, ?_, hm⟩
  simp only [enter, Array.toList_append, List.size_toArray, Array.toList_replicate]
  rw [← ha.length]
  exact RL.append ha (RL_const r _)

theorem noTup_iff : ∀ {l : List Value}, noTup l = true → ∀ x ∈ l, ∀ ws, x ≠ .tuple ws
  | [], _, x, hx, _ => by cases hx
  | y :: l, h, x, hx, ws => by
    rcases List.mem_cons.1 hx with rfl | hx
    · rintro rfl; simp [noTup] at h
    · refine noTup_iff ?_ x hx ws
      cases y <;> first | exact h | (simp [noTup] at h)
theorem retA_spec {P : Program} {fn : Func} {e : Exit} {s : St} {v : Value} {m' : Mem} (h : (retA P fn (e, s)).res = some (v, m')) : (e = .normal ∨ e = .ret) ∧ resV P fn s = some v ∧ m' = s.mem ∧ ∀ vs, resAll P s fn.results.toList = some vs → ∀ x ∈ vs, ∀ ws, x ≠ .tuple ws := by
  unfold retA at h
  simp only at h
  have key : (match resAll P s fn.results.toList with
      | some vs => match noTup vs with
        | true => match resV P fn s with
          | some v => Ans.out (v, s.mem)
          | none => .fail
        | false => .fail
      | none => .fail).res = some (v, m') → resV P fn s = some v ∧ m' = s.mem ∧ ∀ vs, resAll P s fn.results.toList = some vs → ∀ x ∈ vs, ∀ ws, x ≠ .tuple ws := by
    intro h
    cases hv : resAll P s fn.results.toList with
    | none => simp [hv, Ans.res] at h
    | some vs =>
      simp only [hv] at h
      split at h
      · rename_i hn
        split at h
        · rename_i u hu
          simp only [Ans.res, Option.some.injEq, Prod.mk.injEq] at h
          refine ⟨by rw [hu, h.1], h.2.symm, fun vs' hvs => ?_⟩
          simp only [Option.some.injEq] at hvs
          subst hvs
          exact noTup_iff hn
        · simp [Ans.res] at h
      · simp [Ans.res] at h
  cases e with
  | normal => exact ⟨Or.inl rfl, key h⟩
  | ret => exact ⟨Or.inr rfl, key h⟩
  | _ => simp [Ans.res] at h
/-- A body that comes to a return is a call. -/
theorem body_mem {P : Program} {f : FuncId} {fn : Func} {b : Code} {args : List Value} {m m' : Mem} {v : Value} {e : Exit} {s : St} (hf : P.funcs[f]? = some fn) (hb : fn.body = some b) (hn : (fn.name == "runtime.NumGoroutine") = false) (hsem : CodeSem P m.length b (enter fn args m) e s) (hret : (retA P fn (e, s)).res = some (v, m')) : MemSem P f args m v m' := by
  obtain ⟨he, hres, rfl, hnt⟩ := retA_spec hret
  refine ⟨⟨fn, hf, hn, by rw [hb]; rfl⟩, fun w0 keep r args' w ha hm => ?_⟩
  refine calls_of_wp hf hb ?_
  refine hsem _ w0 keep r _ w (fun b hb => hm.none b (Or.inl (List.getElem?_eq_none hb))) ?_ ⟨r, Ext.refl r, enter_rel ha hm⟩
  intro a' w' ⟨r', hx, hr'⟩
  obtain ⟨v', h1, h2⟩ := results_run hr' hres hnt
  rcases he with rfl | rfl
  · exact ⟨hr'.1, v', h1, v', r', rfl, h2, hr'.2.2, hx⟩
  · exact ⟨hr'.1, v', h1, v', r', rfl, h2, hr'.2.2, hx⟩
def noRen : Ren := fun _ => none
theorem start_rel (w : World) : MemRel w ⟨fun j => j < w.heap.size, fun j => j < w.heap.size, fun _ h => h⟩ noRen [] w :=
  ⟨rfl, rfl, rfl, Nat.le_refl _, Nat.le_refl _, fun _ h => h, fun _ _ => rfl, fun _ _ => rfl, fun b h => by simp [noRen] at h, fun b p h => by simp [noRen] at h, fun b p h => by simp [noRen] at h, fun b p h => by simp [noRen] at h, fun b p h => by simp [noRen] at h, fun b c p q h => by simp [noRen] at h, fun b c p q h => by simp [noRen] at h⟩
theorem RL_plain {r : Ren} : ∀ {l : List Value}, (∀ x ∈ l, plain x = true) → RL (R r) l l
  | [], _ => trivial
  | x :: l, h => ⟨(R_plain (h x (by simp))).2 rfl, RL_plain fun y hy => h y (by simp [hy])⟩
/-- A call that starts with no memory and answers none. -/
theorem MemSem.plain {P : Program} {f : FuncId} {args : List Value} {m' : Mem} {v : Value} (h : MemSem P f args [] v m') (ha : ∀ x ∈ args, plain x = true) (hv : plain v = true) : PlainSem P f args v := by
  refine ⟨h.1, fun w => ?_⟩
  refine (h.2 w _ noRen args w (RL_plain ha) (start_rel w)).mono ?_
  rintro e w' ⟨v', r', rfl, h1, h2, h3⟩
  rw [(R_plain hv).1 h1]
  exact ⟨rfl, ⟨h2.os, h2.tape, h2.output, h2.size, fun k hk => h2.kept k hk⟩, h2.drawn⟩

/-! ## Code -/
def Sound (C : Cx) (n : Nat) : Prop := ∀ f B c, InBody (C.into f B) c → ∀ st e s, (exCode n (C.into f B) c st).res = some (e, s) → CodeSem C.P B c st e s
def SoundLoop (C : Cx) (n : Nat) : Prop := ∀ f B x, InBody (C.into f B) (.loop x) → ∀ st e s, (exCode n (C.into f B) (.loop x) st).res = some (e, s) → LoopSem C.P B x st e s

theorem callsOf_ok {C : Cx} (hC : CxOk C) {n : Nat} (ih : Sound C n) (g : FuncId) (B : Nat) : CallOk C.P (callsOf (C.into g B) (exCode n)) := by
  have inner : ∀ f fn b args m v m', C.inl f = some fn → fn.body = some b → ((exCode n (C.into f m.length) b (enter fn args m)).bind (retA C.P fn)).res = some (v, m') → MemSem C.P f args m v m' := by
    intro f fn b args m v m' hfn hb h
    obtain ⟨⟨e, s⟩, h1, h2⟩ := Ans.bind_some h
    obtain ⟨g1, g2⟩ := hC.inl f fn hfn
    exact body_mem g1 hb g2 (ih f m.length b (Or.inl ⟨fn, b, g1, hb, fun x hx => hx⟩) _ _ _ h1) h2
  have noInl : ∀ {f z : Nat}, C.rdOf f = z + 1 → C.rd f = z + 1 ∧ ∀ args m, (callsOf (C.into g B) (exCode n)).mm f args m = match C.tbm f args m with
      | some a => a
      | none => .fail := fun {f z} hf => by
    unfold Cx.rdOf at hf
    cases hi : C.inl f with
    | some fn => rw [hi] at hf; cases hf
    | none =>
      rw [hi] at hf
      refine ⟨hf, fun args m => ?_⟩
      cases ht : C.tbm f args m with
      | some a => simp only [callsOf, Cx.into, ht]
      | none => simp only [callsOf, Cx.into, ht, hi]
  refine ⟨fun f args v hargs h hv => ?_, fun f args m v m' h => ?_, hC.keys, ⟨fun f hf args m v m' h => ?_, fun f hf args m v m' h => ?_⟩, hC.ext⟩
  · simp only [callsOf] at h
    split at h
    · rename_i d u htbl
      rcases Ans.br_some h with ⟨rfl, h⟩ | ⟨rfl, h⟩
      · simp only [Ans.res, Option.some.injEq] at h
        subst h
        exact hC.tbl f args _ hargs htbl hv
      · simp [Ans.res] at h
    · split at h
      · rename_i fn hfn
        split at h
        · rename_i b hb
          obtain ⟨⟨u, m'⟩, h1, h2⟩ := Ans.bind_some h
          simp only [Ans.res, Option.some.injEq] at h2
          subst h2
          exact (inner f fn b args [] u m' hfn hb h1).plain hargs hv
        · simp [Ans.res] at h
      · simp [Ans.res] at h
  · simp only [callsOf] at h
    split at h
    · rename_i ans hans
      exact hC.tbm f args m ans v m' hans h
    · split at h
      · rename_i fn hfn
        split at h
        · rename_i b hb
          exact inner f fn b args m v m' hfn hb h
        · simp [Ans.res] at h
      · simp [Ans.res] at h
  · obtain ⟨h0, hmm⟩ := noInl (f := f) (z := 0) hf
    rw [hmm] at h
    split at h
    · rename_i ans hans
      obtain ⟨e1, e2⟩ := hC.rd f h0 args m ans v m' hans h
      refine ⟨e1, fun q k hq => ?_⟩
      obtain ⟨ans', h1, h2⟩ := e2 q k hq
      rw [hmm, h1]
      exact h2
    · simp [Ans.res] at h
  · obtain ⟨h0, hmm⟩ := noInl (f := f) (z := 1) hf
    rw [hmm] at h
    split at h
    · rename_i ans hans
      obtain ⟨new, e1, e2⟩ := hC.rd2 f h0 args m ans v m' hans h
      refine ⟨new, e1, fun q k hk hq => ?_⟩
      obtain ⟨ans', h1, h2⟩ := e2 q k hk hq
      rw [hmm, h1]
      exact h2
    · simp [Ans.res] at h

theorem exCode_sound {C : Cx} (hC : CxOk C) : ∀ n, Sound C n ∧ SoundLoop C n := by
  intro n
  induction n with
  | zero => exact ⟨fun f B c _ st e s h => by simp [exCode, Ans.res] at h, fun f B x _ st e s h => by simp [exCode, Ans.res] at h⟩
  | succ n ih =>
    obtain ⟨ih, ihl⟩ := ih
    have hloop : SoundLoop C (n + 1) := by
      intro f B x hin st e s h Q w0 keep r0 a w hB hQ hr
      simp only [exCode] at h
      split at h
      · rename_i ans hans
        rcases hin with ⟨fn, b, h1, h2, h3⟩ | hno
        · exact hC.lp f fn b h1 h2 x (h3 x (by simp [loopsIn])) B st ans e s hans h Q w0 keep r0 a w hB hQ hr
        · have := hno (loopKey x) (C.into f B).fb st
          rw [this] at hans; cases hans
      · obtain ⟨⟨e1, s1⟩, h1, h2⟩ := Ans.bind_some h
        refine LoopsTo.round ?_
        refine ih f B x (hin.sub fun y hy => by simp [loopsIn, hy]) st e1 s1 h1 _ w0 keep r0 a w hB ?_ hr
        intro a' w' hr'
        simp only at h2
        cases e1 with
        | normal => exact ihl f B x hin s1 e s h2 Q w0 keep r0 a' w' hB hQ hr'
        | _ =>
          simp only [Ans.res, Option.some.injEq, Prod.mk.injEq] at h2
          obtain ⟨rfl, rfl⟩ := h2
          exact hQ a' w' hr'
    refine ⟨?_, hloop⟩
    intro f B c hin st e s h Q w0 keep r0 a w hB hQ hr
    cases c with
    | skip =>
      simp only [exCode, Ans.res, Option.some.injEq, Prod.mk.injEq] at h
      obtain ⟨rfl, rfl⟩ := h
      exact wp_skip (hQ a w hr)
    | label l =>
      simp only [exCode, Ans.res, Option.some.injEq, Prod.mk.injEq] at h
      obtain ⟨rfl, rfl⟩ := h
      exact wp_label (hQ a w hr)
    | exit id =>
      simp only [exCode, Ans.res, Option.some.injEq, Prod.mk.injEq] at h
      obtain ⟨rfl, rfl⟩ := h
      exact wp_exit (hQ a w hr)
    | ret =>
      simp only [exCode, Ans.res, Option.some.injEq, Prod.mk.injEq] at h
      obtain ⟨rfl, rfl⟩ := h
      exact wp_ret (hQ a w hr)
    | seq x y =>
      simp only [exCode] at h
      obtain ⟨⟨e1, s1⟩, h1, h2⟩ := Ans.bind_some h
      refine wp_seq (ih f B x (hin.sub fun z hz => by simp [loopsIn, hz]) st e1 s1 h1 _ w0 keep r0 a w hB ?_ hr)
      intro a' w' hr'
      simp only at h2
      cases e1 with
      | normal => exact ih f B y (hin.sub fun z hz => by simp [loopsIn, hz]) s1 e s h2 Q w0 keep r0 a' w' hB hQ hr'
      | _ =>
        simp only [Ans.res, Option.some.injEq, Prod.mk.injEq] at h2
        obtain ⟨rfl, rfl⟩ := h2
        exact hQ a' w' hr'
    | cond c x y =>
      cases c with
      | tmp t =>
        simp only [exCode] at h
        split at h
        · rename_i b hb
          obtain ⟨r, hx, hr'⟩ := hr
          have he : a.eval (.tmp t) = .bool b := by
            have := eval_R hr' (.tmp t)
            simp only [ev, hb, Option.getD_some] at this
            exact R_bool this
          rcases Ans.br_some h with ⟨rfl, h⟩ | ⟨rfl, h⟩
          · simp only [lit_self hb] at h
            exact wp_cond_true he (ih f B x (hin.sub fun z hz => by simp [loopsIn, hz]) st e s h Q w0 keep r0 a w hB hQ ⟨r, hx, hr'⟩)
          · simp only [lit_self hb] at h
            exact wp_cond_false he (ih f B y (hin.sub fun z hz => by simp [loopsIn, hz]) st e s h Q w0 keep r0 a w hB hQ ⟨r, hx, hr'⟩)
        · simp [Ans.res] at h
      | _ => simp [exCode, Ans.res] at h
    | block id x =>
      simp only [exCode] at h
      obtain ⟨⟨e1, s1⟩, h1, h2⟩ := Ans.bind_some h
      refine wp_block (ih f B x (hin.sub fun z hz => by simpa [loopsIn] using hz) st e1 s1 h1 _ w0 keep r0 a w hB ?_ hr)
      intro a' w' hr'
      simp only at h2
      cases e1 with
      | exit i =>
        simp only [Exit.inBlock]
        simp only at h2
        cases hb : Nat.beq i id with
        | true =>
          have hi : i = id := Nat.eq_of_beq_eq_true hb
          simp only [hb, Ans.res, Option.some.injEq, Prod.mk.injEq] at h2
          obtain ⟨rfl, rfl⟩ := h2
          rw [if_pos hi]
          exact hQ a' w' hr'
        | false =>
          have hi : i ≠ id := fun e => by subst e; simp at hb
          simp only [hb, Ans.res, Option.some.injEq, Prod.mk.injEq] at h2
          obtain ⟨rfl, rfl⟩ := h2
          rw [if_neg hi]
          exact hQ a' w' hr'
      | _ =>
        simp only [Ans.res, Option.some.injEq, Prod.mk.injEq] at h2
        obtain ⟨rfl, rfl⟩ := h2
        exact hQ a' w' hr'
    | loop x => exact (hloop f B x hin st e s h Q w0 keep r0 a w hB hQ hr).wp
    | region id ops draw =>
      simp only [exCode] at h
      split at h
      · rename_i hok
        obtain ⟨s1, h1, h2⟩ := Ans.bind_some h
        simp only [Ans.res, Option.some.injEq, Prod.mk.injEq] at h2
        obtain ⟨rfl, rfl⟩ := h2
        rw [opsA_res] at h1
        exact region_sound hC.mixed (callsOf_ok hC ih f B) hok h1 (fun a w hr => hQ a w hr) hr
      · simp [Ans.res] at h
    | _ => simp [exCode, Ans.res] at h

/-- A function that the executor runs is called so. -/
theorem exFunA_sem {C : Cx} (hC : CxOk C) {n : Nat} {f : FuncId} {fn : Func} {args : List Value} {m m' : Mem} {v : Value} (hf : C.P.funcs[f]? = some fn) (hok : (fn.name == "runtime.NumGoroutine") = false) (hcur : C.cur = f ∨ ∀ k n st, C.lp C.cur k n st = none) (h : (exFunA C n fn args m).res = some (v, m')) : MemSem C.P f args m v m' := by
  unfold exFunA at h
  split at h
  · rename_i b hb
    obtain ⟨⟨e, s⟩, h1, h2⟩ := Ans.bind_some h
    refine body_mem hf hb hok ((exCode_sound hC n).1 C.cur m.length b ?_ _ _ _ h1) h2
    rcases hcur with rfl | hno
    · exact Or.inl ⟨fn, b, hf, hb, fun x hx => hx⟩
    · exact Or.inr hno
  · simp [Ans.res] at h
theorem exFun_sem {C : Cx} (hC : CxOk C) {n : Nat} {f : FuncId} {fn : Func} {args : List Value} {v : Value} (hf : C.P.funcs[f]? = some fn) (hok : (fn.name == "runtime.NumGoroutine") = false) (hcur : C.cur = f ∨ ∀ k n st, C.lp C.cur k n st = none) (hargs : ∀ x ∈ args, plain x = true) (h : exFun C n fn args = some v) : PlainSem C.P f args v ∧ plain v = true := by
  unfold exFun at h
  obtain ⟨⟨u, m'⟩, h1, h2⟩ := Ans.bind_some h
  unfold onlyPlain at h2
  split at h2
  · rename_i hp
    simp only [Ans.res, Option.some.injEq] at h2
    subst h2
    exact ⟨(exFunA_sem hC hf hok hcur h1).plain hargs hp, hp⟩
  · simp [Ans.res] at h2
end Go.Proofs.Ytokdjjdmmahbiaa.Vx
