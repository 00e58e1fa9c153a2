/-
  What the executor says of an operation, the model's machine does. Nothing here is trusted.
-/
import Derived.Test.YtagnkjdobkdhmaaVx3
namespace Go.Proofs.Ytagnkjdobkdhmaa.Vx
open Go Go.RowKit

/-- What a function that is called by its value function answers, whatever the world; it makes memory of its own and turns none. -/
def CallOk (P : Program) (call : FuncId → List Value → Option Value) : Prop :=
  ∀ f args v, (∀ x ∈ args, bare x = true) → call f args = some v →
    (∃ fn, P.funcs[f]? = some fn ∧ (fn.name == "runtime.NumGoroutine") = false ∧ fn.body.isNone = false) ∧
    ∀ w, Calls P f args.toArray w fun e w' => e = .returned v ∧ Below w.heap.size w w'

/-- What an operation that is no call comes to. -/
def Ran (P : Program) (w0 : World) (r : Nat → Nat) (st : St) (a : Act) (w : World) (o : Oper) (v : Value) (m : Mem) : Prop :=
  ∃ r' w', ((execOp a.eval o).run P w = .ok (.value (ren r' v)) w' ∨ ((execOp a.eval o).run P w = .ok .skip w' ∧ v = undef)) ∧
    MemRel w0 r' m w' ∧ inMem m v ∧ (∀ u, inMem st.mem u → ren r' u = ren r u ∧ inMem m u)

theorem Ran.same {P : Program} {w0 : World} {r : Nat → Nat} {st : St} {a : Act} {w : World} {o : Oper} {v : Value} (hr : RelAt w0 r st a w) (h : (execOp a.eval o).run P w = .ok (.value (ren r v)) w) (hv : inMem st.mem v) : Ran P w0 r st a w o v st.mem :=
  ⟨r, w, Or.inl h, hr.2.2.2, hv, fun _ hu => ⟨rfl, hu⟩⟩

theorem opVal_run {P : Program} {st : St} {o : Oper} {v : Value} (hs : ∀ cs b, o.op ≠ .select cs b) (h : opVal P st o = some v) {w0 : World} {r : Nat → Nat} {a : Act} {w : World} (hr : RelAt w0 r st a w) :
    Ran P w0 r st a w o v st.mem := by
  unfold opVal at h
  split at h
  · rename_i hall
    have hc : execOp a.eval o = execOp (ev st) o := execOp_congr o hs fun x hx => eval_bare hr (List.all_eq_true.1 hall x (Array.mem_toList_iff.2 hx))
    cases hv : val? P (execOp (ev st) o) with
    | none => simp [hv] at h
    | some nx =>
      cases nx with
      | value u =>
        simp only [hv] at h
        split at h
        · rename_i hb
          simp only [Option.some.injEq] at h
          subst h
          refine Ran.same hr ?_ (inMem_bare hb)
          rw [hc, val?_run _ _ hv w, ren_bare hb]
        · cases h
      | _ => simp [hv] at h
  · cases h

theorem run_value {P : Program} {s : Sem Value} {v : Value} {w w' : World} (h : s.run P w = .ok v w') : ((do pure (Next.value (← s)) : Sem Next)).run P w = .ok (.value v) w' := by
  simp only [Sem.run_bind, h, Result.andThen_ok, Sem.run_pure]

theorem sure {P : Program} {w : World} (a : Addr) : (Instr.sureAddr (.pointer (some a))).run P w = .ok a w := rfl

theorem eqGuard_run {P : Program} {op : BinOp} {t : TypeId} {x y : Operand} {xs ys : Array Value} (hop : op = .eql ∨ op = .neq) (h : P.eqGuardType P.depth t = false) (w : World) : (eqGuard op t x y (.agg xs) (.agg ys)).run P w = .ok () w := by
  rcases hop with rfl | rfl <;> simp [eqGuard, program, Sem.run, Sem.run_bind, h]

theorem eqOk_spec {P : Program} {t : TypeId} (h : eqOk P t = true) : P.eqGuardType P.depth t = false ∧ isAggT P t = some true := by
  unfold eqOk at h
  rw [Bool.and_eq_true] at h
  refine ⟨by simpa using h.1, ?_⟩
  have h2 := h.2
  split at h2
  · assumption
  · cases h2

theorem equal_run {P : Program} {t : TypeId} {xs ys : Array Value} {b : Bool} (ha : isAggT P t = some true) (h : eqCells P 9 t xs.toList ys.toList = some b) (w : World) : (Op.equal t (.agg xs) (.agg ys)).run P w = .ok b w := by
  obtain ⟨x, y, hx, hy, he⟩ := eqCells_run 9 t _ _ b h
  simp [mkV, ha] at hx hy
  subst hx
  subst hy
  exact he 9991 w

theorem act_run {P : Program} {call : FuncId → List Value → Option Value} {pos : Option Nat} {st : St} {o : Oper} {v : Value} {m : Mem} (h : act P call pos st o = some (v, m)) (hnc : ∀ c f, o.op = .call c → c.callee ≠ .value (.func f))
    {w0 : World} {r : Nat → Nat} {a : Act} {w : World} (hr : RelAt w0 r st a w) : Ran P w0 r st a w o v m := by
  obtain ⟨dst, op, type, pos, after, guard⟩ := o
  cases op with
  | move x =>
    simp only [act] at h
    split at h
    · rename_i hx
      simp only [Option.some.injEq, Prod.mk.injEq] at h
      obtain ⟨rfl, rfl⟩ := h
      exact Ran.same hr (by simp only [execOp]; rw [eval_ren hr hx]; rfl) (ev_inMem hr hx)
    · cases h
  | assign x =>
    simp only [act] at h
    split at h
    · rename_i hx
      simp only [Option.some.injEq, Prod.mk.injEq] at h
      obtain ⟨rfl, rfl⟩ := h
      exact Ran.same hr (by simp only [execOp]; rw [eval_ren hr hx]; rfl) (ev_inMem hr hx)
    · cases h
  | pick c x y =>
    simp only [act] at h
    split at h
    · rename_i hxy
      simp only [Bool.and_eq_true] at hxy
      split at h
      · rename_i q hq
        simp only [Option.some.injEq, Prod.mk.injEq] at h
        obtain ⟨rfl, rfl⟩ := h
        have hc : a.eval c = .bool q := by
          cases c with
          | tmp t => rw [eval_ren hr (x := .tmp t) rfl, hq]; rfl
          | const u => exact hq
          | global g => cases hq
          | func f => cases hq
        cases q with
        | true => exact Ran.same hr (by simp only [execOp, hc, asBool]; simp [eval_ren hr hxy.1]) (by simpa using ev_inMem hr hxy.1)
        | false => exact Ran.same hr (by simp only [execOp, hc, asBool]; simp [eval_ren hr hxy.2]) (by simpa using ev_inMem hr hxy.2)
      · cases h
    · cases h
  | box t x =>
    simp only [act] at h
    split at h
    · rename_i hx
      split at h
      rotate_left
      · cases h
      split at h
      · rename_i hp
        simp only [Option.some.injEq, Prod.mk.injEq] at h
        obtain ⟨rfl, rfl⟩ := h
        refine ⟨_, _, Or.inl ?_, hr.2.2.2.push hp (ev st x).cells.toList t, ⟨_, by rw [List.getElem?_set_self (List.getElem?_eq_some_iff.1 hp).1]⟩, fun u hu => ⟨ren_congr (fun i c hi => if_neg (fun e => by subst e; rw [hp] at hi; cases hi)) hu, inMem_mono set_grows hu⟩⟩
        simp only [execOp, Instr.box, newVar, newRow, newObj, eval_bare hr hx]
        simp [Sem.run, ren]
      · cases h
    · cases h
  | alloc t =>
    simp only [act] at h
    split at h
    · rename_i i hi
      split at h
      · rename_i z hz
        split at h
        rotate_left
        · cases h
        split at h
        · rename_i hp
          simp only [Option.some.injEq, Prod.mk.injEq] at h
          obtain ⟨rfl, rfl⟩ := h
          refine ⟨_, _, Or.inl ?_, hr.2.2.2.push hp z.cells.toList t, ⟨_, by rw [List.getElem?_set_self (List.getElem?_eq_some_iff.1 hp).1]⟩, fun u hu => ⟨ren_congr (fun i c hi => if_neg (fun e => by subst e; rw [hp] at hi; cases hi)) hu, inMem_mono set_grows hu⟩⟩
          simp only [execOp, Instr.alloc, newVar, newRow, newObj, Sem.run_bind, zeroValue_run hi hz, Result.andThen_ok]
          simp [Sem.run, ren]
        · cases h
      · cases h
    · cases h
  | load t x =>
    cases x with
    | tmp x =>
      simp only [act] at h
      split at h
      · rename_i b off hp
        split at h
        rotate_left
        · cases h
        split at h
        · rename_i u hu
          simp only [Option.some.injEq, Prod.mk.injEq] at h
          obtain ⟨rfl, rfl⟩ := h
          have hin := ev_inMem hr (x := .tmp x) rfl
          rw [hp] at hin
          obtain ⟨c, hm⟩ := hin
          obtain ⟨_, T, ht⟩ := hr.2.2.2.blk b _ hm
          obtain ⟨h1, h2⟩ := loadV_run hu hm ht
          refine Ran.same hr ?_ (inMem_bare h2)
          rw [ren_bare h2]
          simp only [execOp, Instr.loadAt, eval_ren hr (x := .tmp x) rfl, hp, ren]
          simp only [Sem.run_bind, sure, Result.andThen_ok, h1, Sem.run_pure]
        · cases h
      · cases h
    | _ => simp [act] at h
  | store t x y =>
    cases x with
    | tmp x =>
      simp only [act] at h
      split at h
      · rename_i hy
        split at h
        · rename_i b off hp
          split at h
          · rename_i cells i hm hi
            split at h
            · rename_i hl0
              have hl := hl0.2
              simp only [Option.some.injEq, Prod.mk.injEq] at h
              obtain ⟨rfl, rfl⟩ := h
              obtain ⟨_, T, ht⟩ := hr.2.2.2.blk b _ hm
              obtain ⟨w', hw, hs⟩ := run_storeCells (P := P) (off := off) (ev st y).cells.toList 0 cells w ht (by rw [Array.length_toList]; omega) hl.2.2
              refine ⟨r, w', Or.inr ⟨?_, rfl⟩, hr.2.2.2.stored hm hs, trivial, fun u hu => ⟨rfl, inMem_mono set_grows hu⟩⟩
              simp only [execOp, Instr.storeAt, storeVar, eval_ren hr (x := .tmp x) rfl, hp, ren, eval_bare hr hy, Sem.run_bind, sure, Result.andThen_ok, sizeOf_run hi]
              simp only [hl.1, ne_eq, not_true_eq_false, if_false, Sem.run_pure, Result.andThen_ok, hw]
            · cases h
          · cases h
        · cases h
      · cases h
    | _ => simp [act] at h
  | indexAddr t x ix =>
    cases x with
    | tmp x =>
      simp only [act] at h
      split at h
      · rename_i hix
        split at h
        · rename_i b off k i len e hp hi hu
          split at h
          · rename_i j hj
            split at h
            · rename_i hb
              simp only [Option.some.injEq, Prod.mk.injEq] at h
              obtain ⟨rfl, rfl⟩ := h
              have hin := ev_inMem hr (x := .tmp x) rfl
              rw [hp] at hin
              refine Ran.same hr ?_ hin
              simp only [execOp, Instr.indexAt, eval_ren hr (x := .tmp x) rfl, hp, ren, eval_bare hr hix, hi, asIntOf, Sem.run_bind, Sem.run_pure, Result.andThen_ok, underlying_run hu, sure]
              simp [hb.1, hb.2, sizeOf_run hj, add_none]
            · cases h
          · cases h
        · cases h
      · cases h
    | _ => simp [act] at h
  | fieldAddr t x n =>
    cases x with
    | tmp x =>
      simp only [act] at h
      split at h
      · rename_i b off fs hp hu
        split at h
        · rename_i f hf
          split at h
          · rename_i j hj
            split at h
            · cases h
            · rename_i hz
              simp only [Option.some.injEq, Prod.mk.injEq] at h
              obtain ⟨rfl, rfl⟩ := h
              have hin := ev_inMem hr (x := .tmp x) rfl
              rw [hp] at hin
              refine Ran.same hr ?_ hin
              simp only [execOp, Instr.fieldAt, eval_ren hr (x := .tmp x) rfl, hp, ren, Sem.run_bind, underlying_run hu, Result.andThen_ok, hf, sure, fieldPlace, sizeOf_run hj]
              simp [hz, add_none]
          · cases h
        · cases h
      · cases h
    | _ => simp [act] at h
  | build t parts =>
    simp only [act] at h
    split at h
    · rename_i hall
      split at h
      · rename_i u hu
        simp only [Option.some.injEq, Prod.mk.injEq] at h
        obtain ⟨rfl, rfl⟩ := h
        have hp : (parts.map fun (p : Nat × Operand) => (p.1, a.eval p.2)).toList = parts.toList.map fun p => (p.1, ev st p.2) := by
          rw [Array.toList_map]
          refine List.map_congr_left fun p hp => ?_
          rw [eval_bare hr (List.all_eq_true.1 hall p.2 (List.mem_map.2 ⟨p, hp, rfl⟩))]
        rw [← hp] at hu
        obtain ⟨h1, h2⟩ := buildV_run hu w
        refine Ran.same hr ?_ (inMem_bare h2)
        rw [ren_bare h2]
        exact run_value h1
      · cases h
    · cases h
  | binOp op t x y yt =>
    simp only [act] at h
    split at h
    · rename_i xs ys hx hy
      split at h
      · rename_i hok
        simp only [Bool.and_eq_true] at hok
        split at h
        · rename_i b hb
          simp only [Option.some.injEq, Prod.mk.injEq] at h
          obtain ⟨rfl, rfl⟩ := h
          obtain ⟨g1, g2⟩ := eqOk_spec hok.2
          refine Ran.same hr ?_ trivial
          simp only [execOp, eval_bare hr hok.1.1, eval_bare hr hok.1.2, hx, hy]
          simp only [Sem.run_bind, eqGuard_run (Or.inl rfl) g1, Result.andThen_ok, binOp, equal_run g2 hb, Sem.run_pure, ren]
        · cases h
      · cases h
    · rename_i xs ys hx hy
      split at h
      · rename_i hok
        simp only [Bool.and_eq_true] at hok
        split at h
        · rename_i b hb
          simp only [Option.some.injEq, Prod.mk.injEq] at h
          obtain ⟨rfl, rfl⟩ := h
          obtain ⟨g1, g2⟩ := eqOk_spec hok.2
          refine Ran.same hr ?_ trivial
          simp only [execOp, eval_bare hr hok.1.1, eval_bare hr hok.1.2, hx, hy]
          simp only [Sem.run_bind, eqGuard_run (Or.inr rfl) g1, Result.andThen_ok, binOp, equal_run g2 hb, Sem.run_pure, ren]
        · cases h
      · cases h
    · rename_i k a k' b hx hy
      split at h
      · rename_i hok
        simp only [Bool.and_eq_true, decide_eq_true_eq] at hok
        split at h
        · cases h
        · rename_i hb
          simp only [Option.some.injEq, Prod.mk.injEq] at h
          obtain ⟨rfl, rfl⟩ := h
          have hb' : b ≠ 0 := by simpa using hb
          refine Ran.same hr ?_ trivial
          simp only [execOp, eval_bare hr hok.1.1, eval_bare hr hok.1.2, hx, hy]
          simp [eqGuard, binOp, hok.2, Op.intDiv, hb', ren]
      · cases h
    · rename_i k a k' b hx hy
      split at h
      · rename_i hok
        simp only [Bool.and_eq_true, decide_eq_true_eq] at hok
        split at h
        · cases h
        · rename_i hb
          simp only [Option.some.injEq, Prod.mk.injEq] at h
          obtain ⟨rfl, rfl⟩ := h
          have hb' : b ≠ 0 := by simpa using hb
          refine Ran.same hr ?_ trivial
          simp only [execOp, eval_bare hr hok.1.1, eval_bare hr hok.1.2, hx, hy]
          simp [eqGuard, binOp, hok.2, Op.intDiv, hb', ren]
      · cases h
    · split at h
      · rename_i u hu
        simp only [Option.some.injEq, Prod.mk.injEq] at h
        obtain ⟨rfl, rfl⟩ := h
        exact opVal_run (by intro cs b; simp) hu hr
      · cases h
  | call c =>
    simp only [act] at h
    split at h
    · rename_i f hf; exact absurd hf (hnc c f rfl)
    · split at h
      · rename_i u hu
        simp only [Option.some.injEq, Prod.mk.injEq] at h
        obtain ⟨rfl, rfl⟩ := h
        exact opVal_run (by intro cs b; simp) hu hr
      · cases h
    · cases h
  | unOp op t x =>
    simp only [act] at h
    split at h
    · rename_i u hu
      simp only [Option.some.injEq, Prod.mk.injEq] at h
      obtain ⟨rfl, rfl⟩ := h
      exact opVal_run (by intro cs b; simp) hu hr
    · cases h
  | convert s d x =>
    simp only [act] at h
    split at h
    · rename_i u hu
      simp only [Option.some.injEq, Prod.mk.injEq] at h
      obtain ⟨rfl, rfl⟩ := h
      exact opVal_run (by intro cs b; simp) hu hr
    · cases h
  | field t x n =>
    simp only [act] at h
    split at h
    · rename_i u hu
      simp only [Option.some.injEq, Prod.mk.injEq] at h
      obtain ⟨rfl, rfl⟩ := h
      exact opVal_run (by intro cs b; simp) hu hr
    · cases h
  | index t x n =>
    simp only [act] at h
    split at h
    · rename_i u hu
      simp only [Option.some.injEq, Prod.mk.injEq] at h
      obtain ⟨rfl, rfl⟩ := h
      exact opVal_run (by intro cs b; simp) hu hr
    · cases h
  | extract x n =>
    simp only [act] at h
    split at h
    · rename_i u hu
      simp only [Option.some.injEq, Prod.mk.injEq] at h
      obtain ⟨rfl, rfl⟩ := h
      exact opVal_run (by intro cs b; simp) hu hr
    · cases h
  | _ => simp [act] at h

end Go.Proofs.Ytagnkjdobkdhmaa.Vx
