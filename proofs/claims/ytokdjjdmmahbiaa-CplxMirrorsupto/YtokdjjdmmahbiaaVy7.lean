/-
  What the executor says of an operation that is no call, the machine does. Nothing here is trusted.
-/
import Derived.Test.YtokdjjdmmahbiaaVy6
namespace Go.Proofs.Ytokdjjdmmahbiaa.Vx
open Go Go.RowKit

section
variable {P : Program} {w0 : World} {keep : Keep} {r : Ren} {tm : List Value} {m m' : Mem} {a : Act} {w : World} {cs : CallsX} {pos : Pos} {v : Value}

theorem valE {cls : Nat} {u : Value} (g : (runE cls pos m (.val u)).res = some (v, m')) : v = u ∧ m' = m := by
  simp only [runE, Ans.res, Option.some.injEq, Prod.mk.injEq] at g
  exact ⟨g.1.symm, g.2.symm⟩
theorem makeE {cls : Nat} {k : Blk} {f : Nat → Value} (g : (runE cls pos m (.make k f)).res = some (v, m')) : ∃ b, m[b]? = some .no ∧ v = f b ∧ m' = m.set b k := by
  simp only [runE] at g
  split at g
  · rename_i b _
    split at g
    · rename_i hb
      simp only [Ans.res, Option.some.injEq, Prod.mk.injEq] at g
      exact ⟨b, hb, g.1.symm, g.2.symm⟩
    · simp [Ans.res] at g
  · simp [Ans.res] at g
theorem readE {cls : Nat} {b : Nat} {f : Blk → Ans Value} (g : (runE cls pos m (.read b f)).res = some (v, m')) : ∃ k, m[b]? = some k ∧ (f k).res = some v ∧ m' = m := by
  simp only [runE] at g
  split at g
  · split at g
    · rename_i k hk
      obtain ⟨u, h1, h2⟩ := Ans.bind_some g
      simp only [Ans.res, Option.some.injEq, Prod.mk.injEq] at h2
      exact ⟨k, hk, by rw [h1, h2.1], h2.2.symm⟩
    · simp [Ans.res] at g
  · simp [Ans.res] at g
theorem updE {cls : Nat} {b : Nat} {f : Blk → Ans (Value × Blk)} (g : (runE cls pos m (.upd b f)).res = some (v, m')) : ∃ k k', m[b]? = some k ∧ (f k).res = some (v, k') ∧ m' = m.set b k' := by
  simp only [runE] at g
  split at g
  · split at g
    · rename_i k hk
      obtain ⟨⟨u, k'⟩, h1, h2⟩ := Ans.bind_some g
      simp only [Ans.res, Option.some.injEq, Prod.mk.injEq] at h2
      exact ⟨k, k', hk, by rw [h1, h2.1], h2.2.symm⟩
    · simp [Ans.res] at g
  · simp [Ans.res] at g

theorem Ran.push {o : Oper} (hr : RelAt w0 keep r ⟨tm, m⟩ a w) {b : Nat} (hb : m[b]? = some .no) {k : Blk} {p : Place} {ob : Obj} {v' : Value} (hp : p.blk = w.heap.size) (ho : p.own = true) (hk : k ≠ .no)
    (hrun : (execOp a.eval o).run P w = .ok (.value v') { w with heap := w.heap.push ob }) (hrel : BlkRel { w with heap := w.heap.push ob } (r.put b p) p k) (hv : R (r.put b p) v v') : Ran P w0 keep r a w o v (m.set b k) :=
  ⟨r.put b p, _, v', Or.inl hrun, hv, hr.2.2.push hb hp ho hk hrel, Ren.put_ext (hr.2.2.none b (Or.inr hb)) p⟩
theorem R_put_ptr {b : Nat} {p : Place} (h0 : p.off = 0) : R (r.put b p) (.pointer (some ⟨b, 0, none⟩)) (.pointer (some ⟨p.blk, 0, none⟩)) :=
  R_ptr_mk (Or.inr ⟨p, by simp [Ren.put], by simp [Place.addr, h0], fun i hi => by simp at hi⟩)
theorem get_push_self (o : Obj) : (w.heap.push o)[w.heap.size]? = some o := by simp
theorem CellsAt_of {l l' : List Value} (h : RL (R0 r) l l') : CellsAt r l'.toArray 0 l := fun k v hk => by
  obtain ⟨v', h1, h2⟩ := h.get k v hk
  exact ⟨v', by simpa using h1, h2⟩

theorem live_of (hr : RelAt w0 keep r ⟨tm, m⟩ a w) {q q' : Addr} {k : Blk} (hk : m[q.block]? = some k) (h : (r q.block = some none) ∨ ∃ p, r q.block = some (some p) ∧ q' = p.addr q ∧ p.has q 1) (hg : k ≠ .gone) : ∃ p, r q.block = some (some p) ∧ q' = p.addr q ∧ p.has q 1 ∧ BlkRel w r p k := by
  rcases h with h | ⟨p, h1, h2, h3⟩
  · have := hr.2.2.dead _ h
    rw [hk] at this
    simp only [Option.some.injEq] at this
    exact absurd this hg
  · exact ⟨p, h1, h2, h3, hr.2.2.at h1 hk⟩

/-! ## One by one -/
theorem act_move {o : Oper} {x : Operand} (ho : o.op = .move x ∨ o.op = .assign x) (hr : RelAt w0 keep r ⟨tm, m⟩ a w) : Ran P w0 keep r a w o (ev tm x) m := by
  refine Ran.val hr (v' := a.eval x) ?_ (eval_R hr x)
  rcases ho with ho | ho <;> simp only [execOp, ho] <;> rfl
theorem act_make {o : Oper} {t : TypeId} {l l' : List Value} (hr : RelAt w0 keep r ⟨tm, m⟩ a w) {b : Nat} (hb : m[b]? = some .no) (hl : RL (R0 r) l l')
    (hrun : (execOp a.eval o).run P w = .ok (.value (.pointer (some ⟨w.heap.size, 0, none⟩))) { w with heap := w.heap.push (.cells l'.toArray t (0, 0)) }) :
    Ran P w0 keep r a w o (.pointer (some ⟨b, 0, none⟩)) (m.set b (.cells true 0 l)) := by
  refine Ran.push hr hb (p := ⟨w.heap.size, 0, 0, 0, l'.length, true⟩) rfl rfl (by simp) hrun ⟨rfl, rfl, l'.toArray, t, (0, 0), (fun h => by cases h), get_push_self _, fun _ => ⟨rfl, by simp⟩, ?_⟩ (R_put_ptr rfl)
  exact (CellsAt_of hl).ext (Ren.put_ext (hr.2.2.none b (Or.inr hb)) _)
end
end Go.Proofs.Ytokdjjdmmahbiaa.Vx
