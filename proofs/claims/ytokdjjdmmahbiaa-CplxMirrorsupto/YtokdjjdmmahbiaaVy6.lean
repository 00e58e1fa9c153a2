/-
  What the executor says of an operation, the machine does. Nothing here is trusted.
-/
import Derived.Test.YtokdjjdmmahbiaaVy5
namespace Go.Proofs.Ytokdjjdmmahbiaa.Vx
open Go Go.RowKit

/-- What an operation comes to. -/
def Ran (P : Program) (w0 : World) (keep : Keep) (r : Ren) (a : Act) (w : World) (o : Oper) (v : Value) (m : Mem) : Prop :=
  ∃ r' w' v', ((execOp a.eval o).run P w = .ok (.value v') w' ∨ ((execOp a.eval o).run P w = .ok .skip w' ∧ v' = undef)) ∧ R r' v v' ∧ MemRel w0 keep r' m w' ∧ Ext r r'

section
variable {P : Program} {w0 : World} {keep : Keep} {r : Ren} {tm : List Value} {m : Mem} {a : Act} {w : World}

theorem Ran.val {o : Oper} {v v' : Value} (hr : RelAt w0 keep r ⟨tm, m⟩ a w) (h : (execOp a.eval o).run P w = .ok (.value v') w) (hv : R r v v') : Ran P w0 keep r a w o v m :=
  ⟨r, w, v', Or.inl h, hv, hr.2.2, Ext.refl r⟩
theorem run_value {s : Sem Value} {v : Value} {w w' : World} (h : s.run P w = .ok v w') : ((do pure (Next.value (← s)) : Sem Next)).run P w = .ok (.value v) w' := by
  simp only [Sem.run_bind, h, Result.andThen_ok, Sem.run_pure]
theorem run_unit {s : Sem Unit} {w w' : World} (h : s.run P w = .ok () w') : ((do s; pure Next.skip : Sem Next)).run P w = .ok .skip w' := by
  simp only [Sem.run_bind, h, Result.andThen_ok, Sem.run_pure]
theorem sure (q : Addr) : (Instr.sureAddr (.pointer (some q))).run P w = .ok q w := rfl

theorem opVal_run {o : Oper} {v : Value} (hs : ∀ cs b, o.op ≠ .select cs b) (h : opVal P tm o = some v) (hr : RelAt w0 keep r ⟨tm, m⟩ a w) : Ran P w0 keep r a w o v m := by
  unfold opVal at h
  split at h
  · rename_i hall
    have hc : execOp a.eval o = execOp (ev tm) o := execOp_congr o hs fun x hx => eval_plain hr (allO_iff.1 hall x (Array.mem_toList_iff.2 hx))
    split at h
    · rename_i u hv
      split at h
      · rename_i hb
        simp only [Option.some.injEq] at h
        subst h
        exact Ran.val hr (by rw [hc, val?_run _ _ hv w]) ((R_plain hb).2 rfl)
      · cases h
    · cases h
  · cases h

/-- The live place of an address that a value holds. -/
theorem R_ptr {v' : Value} {q : Addr} (h : R r (.pointer (some q)) v') : ∃ q', v' = .pointer (some q') ∧ ((r q.block = some none) ∨ ∃ p, r q.block = some (some p) ∧ q' = p.addr q ∧ p.has q 1) := by
  have h' : R0 r (.pointer (some q)) v' := h
  unfold R0 at h'
  simp only at h'
  revert h'
  cases hq : r q.block with
  | none => exact fun h => h.elim
  | some x => cases x with
    | none => rintro ⟨q', rfl⟩; exact ⟨q', rfl, Or.inl rfl⟩
    | some p => rintro ⟨rfl, h2⟩; exact ⟨_, rfl, Or.inr ⟨p, rfl, rfl, h2⟩⟩
theorem R_sl {v' : Value} {q : Addr} {n e : Nat} (h : R r (.slice (some q) n e) v') : ∃ q' c, v' = .slice (some q') n c ∧ n ≤ c ∧ ((r q.block = some none) ∨ ∃ p, r q.block = some (some p) ∧ q' = p.addr q ∧ p.sl q n e c) := by
  have h' : R0 r (.slice (some q) n e) v' := h
  unfold R0 at h'
  simp only at h'
  revert h'
  cases hq : r q.block with
  | none => exact fun h => h.elim
  | some x => cases x with
    | none => rintro ⟨q', c, rfl, hn⟩; exact ⟨q', c, rfl, hn, Or.inl rfl⟩
    | some p => rintro ⟨c, rfl, h2⟩; exact ⟨_, c, rfl, h2.1, Or.inr ⟨p, rfl, rfl, h2⟩⟩
theorem R_ptr_mk {q q' : Addr} (h : (r q.block = some none) ∨ ∃ p, r q.block = some (some p) ∧ q' = p.addr q ∧ p.has q 1) : R r (.pointer (some q)) (.pointer (some q')) := by
  show R0 r (.pointer (some q)) (.pointer (some q'))
  unfold R0
  simp only
  rcases h with h | ⟨p, h, rfl, h2⟩
  · rw [h]; exact ⟨_, rfl⟩
  · rw [h]; exact ⟨rfl, h2⟩
theorem R_sl_mk {q q' : Addr} {n e c : Nat} (hn : n ≤ c) (h : (r q.block = some none) ∨ ∃ p, r q.block = some (some p) ∧ q' = p.addr q ∧ p.sl q n e c) : R r (.slice (some q) n e) (.slice (some q') n c) := by
  show R0 r (.slice (some q) n e) (.slice (some q') n c)
  unfold R0
  simp only
  rcases h with h | ⟨p, h, rfl, h2⟩
  · rw [h]; exact ⟨_, _, rfl, hn⟩
  · rw [h]; exact ⟨_, rfl, h2⟩
theorem R_int {k : IntKind} {n : Int} {v' : Value} (h : R r (.int k n) v') : v' = .int k n := h
theorem R_bool {b : Bool} {v' : Value} (h : R r (.bool b) v') : v' = .bool b := h
theorem R_str {s : ByteArray} {v' : Value} (h : R r (.string s) v') : v' = .string s := h
theorem boundsI_iff {i : Int} {n : Nat} (h : boundsI i n = true) : 0 ≤ i ∧ i < n := by simpa [boundsI] using h
theorem leI_iff {i : Int} {n : Nat} (h : leI i n = true) : 0 ≤ i ∧ i ≤ n := by simpa [leI] using h

theorem onto_addr {p : Place} {q : Addr} {size i : Nat} (h : q.spot ≠ none → p.esz = size) : p.addr (Addr.onto q size i) = (⟨(p.addr q).block, (p.addr q).off + i * size, none⟩ : Addr) := by
  unfold Addr.onto Place.addr
  cases hs : q.spot with
  | none => simp; omega
  | some j =>
    have he := h (by rw [hs]; simp)
    cases j with
    | zero => simp [he]; omega
    | succ j => simp [he, Nat.add_mul]; omega
theorem onto_block (q : Addr) (size i : Nat) : (Addr.onto q size i).block = q.block := by
  unfold Addr.onto
  split
  · rfl
  · split <;> rfl
theorem onto_has {p : Place} {q : Addr} {size i n k : Nat} (h : p.has q n) (hi : i + k ≤ n) : p.has (Addr.onto q size i) k := by
  intro j hj
  unfold Addr.onto at hj
  cases hs : q.spot with
  | none => simp [hs] at hj
  | some l =>
    have := h l hs
    rw [hs] at hj
    cases l with
    | zero => simp at hj; omega
    | succ l => simp at hj; omega
theorem onto_spot {q : Addr} {size i : Nat} (h : (Addr.onto q size i).spot ≠ none) : q.spot ≠ none := by
  intro e
  apply h
  unfold Addr.onto
  rw [e]

theorem eqGuard_run {op : BinOp} {t : TypeId} {x y : Operand} {xs ys : Array Value} (hop : op = .eql ∨ op = .neq) (h : P.eqGuardType P.depth t = false) (w : World) : (eqGuard op t x y (.agg xs) (.agg ys)).run P w = .ok () w := by
  rcases hop with rfl | rfl <;> simp [eqGuard, program, Sem.run, Sem.run_bind, h]
theorem eqOk_spec {t : TypeId} (h : eqOk P t = true) : P.eqGuardType P.depth t = false ∧ isAggT P t = some true := by
  unfold eqOk at h
  rw [Bool.and_eq_true] at h
  refine ⟨by simpa using h.1, ?_⟩
  have h2 := h.2
  split at h2
  · assumption
  · cases h2
theorem equal_run {t : TypeId} {xs ys : Array Value} {b : Bool} (ha : isAggT P t = some true) (h : eqCells P 9 t xs.toList ys.toList = some b) (w : World) : (Op.equal t (.agg xs) (.agg ys)).run P w = .ok b w := by
  obtain ⟨x, y, hx, hy, he⟩ := eqCells_run 9 t _ _ b h
  simp [mkV, ha] at hx hy
  subst hx
  subst hy
  exact he 9991 w

theorem RP_of (hr : RelAt w0 keep r ⟨tm, m⟩ a w) : ∀ (l : List (Nat × Operand)), RP r (l.map fun p => (p.1, ev tm p.2)) (l.map fun p => (p.1, a.eval p.2))
  | [] => trivial
  | p :: l => ⟨⟨rfl, eval_R hr p.2⟩, RP_of hr l⟩

end
end Go.Proofs.Ytokdjjdmmahbiaa.Vx
