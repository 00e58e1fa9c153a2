/-
  The executor's memory against the machine's. Nothing here is trusted.
-/
import Derived.Test.YtagnkjdobkdhmabVy2
namespace Go.Proofs.Ytagnkjdobkdhmab.Vx
open Go Go.RowKit

def CellsAt (r : Ren) (cs : Array Value) (off : Nat) (c : List Value) : Prop := ∀ (k : Nat) v, c[k]? = some v → ∃ v', cs[off + k]? = some v' ∧ R0 r v v'
theorem CellsAt.ext {r r' : Ren} (he : Ext r r') {cs : Array Value} {off : Nat} {c : List Value} (h : CellsAt r cs off c) : CellsAt r' cs off c := fun k v hv => by
  obtain ⟨v', h1, h2⟩ := h k v hv
  exact ⟨v', h1, h2.ext he⟩

def BlkRel (w : World) (r : Ren) (p : Place) : Blk → Prop
  | .cells own esz c => p.own = own ∧ p.esz = esz ∧ ∃ cs T fz, w.heap[p.blk]? = some (.cells cs T fz) ∧ (own = true → fz = (0, 0) ∧ cs.size = p.off + p.room) ∧ CellsAt r cs p.off c
  | .rows own pl esz n row => p.own = own ∧ p.esz = esz ∧ p.n = n ∧ (pl = true → ∀ i, i < n → allL plain0 (row i) = true) ∧ ∃ cs T fz, w.heap[p.blk]? = some (.cells cs T fz) ∧ (own = true → fz = (0, 0) ∧ cs.size = p.off + p.room) ∧ ∀ i, i < n → (row i).length = esz ∧ CellsAt r cs (p.off + i * esz) (row i)
  | .iter s pos => p.own = true ∧ p.off = 0 ∧ w.heap[p.blk]? = some (.stringIter s pos)
  | _ => False
theorem BlkRel.mono {w w' : World} {r r' : Ren} {p : Place} {k : Blk} (h : BlkRel w r p k) (hw : w'.heap[p.blk]? = w.heap[p.blk]?) (he : Ext r r') : BlkRel w' r' p k := by
  cases k with
  | cells own esz c =>
    obtain ⟨h1, h2, cs, T, fz, h3, h4, h5⟩ := h
    exact ⟨h1, h2, cs, T, fz, by rw [hw]; exact h3, h4, h5.ext he⟩
  | rows own pl esz n row =>
    obtain ⟨h1, h2, h0, hp, cs, T, fz, h3, h4, h5⟩ := h
    exact ⟨h1, h2, h0, hp, cs, T, fz, by rw [hw]; exact h3, h4, fun i hi => ⟨(h5 i hi).1, (h5 i hi).2.ext he⟩⟩
  | iter s pos => exact ⟨h.1, h.2.1, by rw [hw]; exact h.2.2⟩
  | no => exact h
  | gone => exact h
theorem BlkRel.lt {w : World} {r : Ren} {p : Place} {k : Blk} (h : BlkRel w r p k) : p.blk < w.heap.size := by
  have : ∃ o, w.heap[p.blk]? = some o := by
    cases k with
    | cells own esz c => obtain ⟨_, _, cs, T, fz, h3, _⟩ := h; exact ⟨_, h3⟩
    | rows own pl esz n row => obtain ⟨_, _, _, _, cs, T, fz, h3, _⟩ := h; exact ⟨_, h3⟩
    | iter s pos => exact ⟨_, h.2.2⟩
    | no => exact h.elim
    | gone => exact h.elim
  obtain ⟨o, h⟩ := this
  exact (Array.getElem?_eq_some_iff.1 h).1

structure MemRel (w0 : World) (keep : Nat → Prop) (r : Ren) (mem : Mem) (w : World) : Prop where
  os : w.os = w0.os
  tape : w.tape = w0.tape
  output : w.output = w0.output
  size : w0.heap.size ≤ w.heap.size
  klt : ∀ j, keep j → j < w0.heap.size
  kept : ∀ j, keep j → w.heap[j]? = w0.heap[j]?
  none : ∀ b : Nat, (mem[b]? = none ∨ mem[b]? = some .no) → r b = none
  dead : ∀ b : Nat, r b = some Option.none → mem[b]? = some .gone
  blk : ∀ (b : Nat) p, r b = some (some p) → ∃ k, mem[b]? = some k ∧ BlkRel w r p k
  own : ∀ b p, r b = some (some p) → p.own = true → ¬ keep p.blk
  read : ∀ b p, r b = some (some p) → p.own = false → keep p.blk
  inj : ∀ b c p q, r b = some (some p) → r c = some (some q) → p.own = true → q.own = true → p.blk = q.blk → b = c

theorem MemRel.at {w0 : World} {keep : Nat → Prop} {r : Ren} {mem : Mem} {w : World} (h : MemRel w0 keep r mem w) {b : Nat} {p : Place} {k : Blk} (hr : r b = some (some p)) (hm : mem[b]? = some k) : BlkRel w r p k := by
  obtain ⟨k', h1, h2⟩ := h.blk b p hr
  rw [hm] at h1
  simp only [Option.some.injEq] at h1
  rw [h1]; exact h2

/-- A place for a block that is made. -/
def Ren.put (r : Ren) (b : Nat) (p : Place) : Ren := fun i => if i = b then some (some p) else r i
theorem Ren.put_ext {r : Ren} {b : Nat} (h : r b = none) (p : Place) : Ext r (r.put b p) := by
  intro i
  by_cases hi : i = b
  · subst hi; exact Or.inl h
  · right; left; simp [Ren.put, hi]

theorem get_push {w : World} {o : Obj} {j : Nat} (h : j < w.heap.size) : (w.heap.push o)[j]? = w.heap[j]? := by
  rw [Array.getElem?_push, if_neg (by omega)]

theorem MemRel.push {w0 w : World} {keep : Nat → Prop} {r : Ren} {mem : Mem} (h : MemRel w0 keep r mem w) {b : Nat} (hb : mem[b]? = some .no) {k : Blk} {p : Place} {o : Obj} (hp : p.blk = w.heap.size) (ho : p.own = true) (hk : k ≠ .no)
    (hrel : BlkRel { w with heap := w.heap.push o } (r.put b p) p k) : MemRel w0 keep (r.put b p) (mem.set b k) { w with heap := w.heap.push o } := by
  have hlt : b < mem.length := (List.getElem?_eq_some_iff.1 hb).1
  have hrb := h.none b (Or.inr hb)
  have hl : ∀ (c : Nat) q, r c = some (some q) → q.blk < w.heap.size := fun c q hc => by
    obtain ⟨k, _, hk⟩ := h.blk c q hc
    exact hk.lt
  have hkl : ¬ keep w.heap.size := fun hk => by have := h.klt _ hk; have := h.size; omega
  refine ⟨h.os, h.tape, h.output, ?_, h.klt, ?_, ?_, ?_, ?_, ?_, ?_, ?_⟩
  · simp only [Array.size_push]; have := h.size; omega
  · intro j hj
    have := h.klt j hj
    have := h.size
    simp only
    rw [get_push (by omega)]
    exact h.kept j hj
  · intro c hc
    by_cases hcb : c = b
    · subst hcb
      rw [List.getElem?_set_self hlt] at hc
      rcases hc with hc | hc
      · cases hc
      · simp only [Option.some.injEq] at hc; exact absurd hc hk
    · rw [List.getElem?_set_ne (fun e => hcb e.symm)] at hc
      simp only [Ren.put, hcb, if_false]
      exact h.none c hc
  · intro c hc
    by_cases hcb : c = b
    · subst hcb
      simp [Ren.put] at hc
    · simp only [Ren.put, hcb, if_false] at hc
      rw [List.getElem?_set_ne (fun e => hcb e.symm)]
      exact h.dead c hc
  · intro c q hc
    by_cases hcb : c = b
    · subst hcb
      simp only [Ren.put, if_true, Option.some.injEq] at hc
      subst hc
      exact ⟨k, by rw [List.getElem?_set_self hlt], hrel⟩
    · simp only [Ren.put, hcb, if_false] at hc
      obtain ⟨k', h1, h2⟩ := h.blk c q hc
      refine ⟨k', by rw [List.getElem?_set_ne (fun e => hcb e.symm)]; exact h1, h2.mono ?_ (Ren.put_ext hrb p)⟩
      simp only
      rw [get_push h2.lt]
  · intro c q hc hq
    by_cases hcb : c = b
    · subst hcb
      simp only [Ren.put, if_true, Option.some.injEq] at hc
      subst hc
      rw [hp]; exact hkl
    · simp only [Ren.put, hcb, if_false] at hc
      exact h.own c q hc hq
  · intro c q hc hq
    by_cases hcb : c = b
    · subst hcb
      simp only [Ren.put, if_true, Option.some.injEq] at hc
      subst hc
      rw [ho] at hq; cases hq
    · simp only [Ren.put, hcb, if_false] at hc
      exact h.read c q hc hq
  · intro c d q s hc hd hq hs hqs
    by_cases hcb : c = b <;> by_cases hdb : d = b
    · omega
    · simp only [Ren.put, hcb, hdb, if_true, if_false, Option.some.injEq] at hc hd
      subst hc
      have := hl d s hd
      omega
    · simp only [Ren.put, hcb, hdb, if_true, if_false, Option.some.injEq] at hc hd
      subst hd
      have := hl c q hc
      omega
    · simp only [Ren.put, hcb, hdb, if_false] at hc hd
      exact h.inj c d q s hc hd hq hs hqs

/-- A world that differs at one block. -/
structure Only (b : Nat) (w w' : World) : Prop where
  oth : ∀ k, k ≠ b → w'.heap[k]? = w.heap[k]?
  size : w'.heap.size = w.heap.size
  os : w'.os = w.os
  tape : w'.tape = w.tape
  output : w'.output = w.output

theorem MemRel.turn {w0 w w' : World} {keep : Nat → Prop} {r : Ren} {mem : Mem} (h : MemRel w0 keep r mem w) {b : Nat} {p : Place} {k : Blk} (hr : r b = some (some p)) (ho : p.own = true) (hw : Only p.blk w w') (hk : BlkRel w' r p k) : MemRel w0 keep r (mem.set b k) w' := by
  obtain ⟨k0, hb, _⟩ := h.blk b p hr
  have hlt : b < mem.length := (List.getElem?_eq_some_iff.1 hb).1
  have hne : ∀ c q, r c = some (some q) → c ≠ b → q.blk ≠ p.blk := fun c q hc hcb e => by
    cases hq : q.own with
    | true => exact hcb (h.inj c b q p hc hr hq ho e)
    | false =>
      have k1 := h.read c q hc hq
      rw [e] at k1
      exact h.own b p hr ho k1
  refine ⟨hw.os.trans h.os, hw.tape.trans h.tape, hw.output.trans h.output, by rw [hw.size]; exact h.size, h.klt, ?_, ?_, ?_, ?_, h.own, h.read, h.inj⟩
  · intro j hj
    rw [hw.oth j (fun e => by subst e; exact h.own b p hr ho hj)]
    exact h.kept j hj
  · intro c hc
    by_cases hcb : c = b
    · subst hcb
      rw [List.getElem?_set_self hlt] at hc
      rcases hc with hc | hc
      · cases hc
      · simp only [Option.some.injEq] at hc
        subst hc
        exact hk.elim
    · rw [List.getElem?_set_ne (fun e => hcb e.symm)] at hc
      exact h.none c hc
  · intro c hc
    by_cases hcb : c = b
    · subst hcb
      rw [hr] at hc
      simp at hc
    · rw [List.getElem?_set_ne (fun e => hcb e.symm)]
      exact h.dead c hc
  · intro c q hc
    by_cases hcb : c = b
    · subst hcb
      rw [hr] at hc
      simp only [Option.some.injEq] at hc
      subst hc
      exact ⟨k, by rw [List.getElem?_set_self hlt], hk⟩
    · obtain ⟨k', h1, h2⟩ := h.blk c q hc
      exact ⟨k', by rw [List.getElem?_set_ne (fun e => hcb e.symm)]; exact h1, h2.mono (hw.oth _ (hne c q hc hcb)) (Ext.refl r)⟩

theorem MemRel.later {w0 w w' : World} {keep : Nat → Prop} {r : Ren} {mem : Mem} (h : MemRel w0 keep r mem w) (hb : Below w.heap.size w w') : MemRel w0 keep r mem w' := by
  refine ⟨hb.os.trans h.os, hb.tape.trans h.tape, hb.output.trans h.output, Nat.le_trans h.size hb.size, h.klt, fun j hj => ?_, h.none, h.dead, fun b p hp => ?_, h.own, h.read, h.inj⟩
  · rw [hb.block j (by have := h.klt j hj; have := h.size; omega)]; exact h.kept j hj
  · obtain ⟨k, h1, h2⟩ := h.blk b p hp
    exact ⟨k, h1, h2.mono (hb.block _ h2.lt) (Ext.refl r)⟩

theorem room_get {m : Mem} {n b : Nat} {k : Blk} (h : (m ++ List.replicate n .no)[b]? = some k) (hk : k ≠ .no) : m[b]? = some k := by
  rw [List.getElem?_append] at h
  split at h
  · exact h
  · rw [List.getElem?_replicate] at h
    split at h
    · simp only [Option.some.injEq] at h; exact absurd h.symm hk
    · cases h
theorem MemRel.room {w0 w : World} {keep : Nat → Prop} {r : Ren} {mem : Mem} (h : MemRel w0 keep r mem w) (n : Nat) : MemRel w0 keep r (mem ++ List.replicate n .no) w := by
  refine ⟨h.os, h.tape, h.output, h.size, h.klt, h.kept, fun b hb => ?_, fun b hb => ?_, fun b p hp => ?_, h.own, h.read, h.inj⟩
  · by_cases hlt : b < mem.length
    · rw [List.getElem?_append_left hlt] at hb; exact h.none b hb
    · exact h.none b (Or.inl (List.getElem?_eq_none (by omega)))
  · have h1 := h.dead b hb
    rw [List.getElem?_append_left (List.getElem?_eq_some_iff.1 h1).1]; exact h1
  · obtain ⟨k, h1, h2⟩ := h.blk b p hp
    exact ⟨k, by rw [List.getElem?_append_left (List.getElem?_eq_some_iff.1 h1).1]; exact h1, h2⟩

def RelAt (w0 : World) (keep : Nat → Prop) (r : Ren) (st : St) (a : Act) (w : World) : Prop := a.defers = [] ∧ RL (R r) st.tmps a.tmps.toList ∧ MemRel w0 keep r st.mem w
def Rel (w0 : World) (keep : Nat → Prop) (r0 : Ren) (st : St) (a : Act) (w : World) : Prop := ∃ r, Ext r0 r ∧ RelAt w0 keep r st a w

theorem R_undef (r : Ren) : R r undef undef := ⟨#[], rfl, trivial⟩
theorem eval_R {w0 : World} {keep : Nat → Prop} {r : Ren} {st : St} {a : Act} {w : World} (h : RelAt w0 keep r st a w) (x : Operand) : R r (ev st.tmps x) (a.eval x) := by
  cases x with
  | tmp t =>
    simp only [ev, Act.eval]
    cases ht : st.tmps[t]? with
    | none =>
      have hl := h.2.1.length
      have hs : a.tmps.size ≤ t := by
        have := List.getElem?_eq_none_iff.1 ht
        rw [← Array.length_toList]; omega
      have : a.tmps.getD t undef = undef := by simp [Array.getD, Nat.not_lt.2 hs]
      rw [this]
      exact R_undef r
    | some v =>
      obtain ⟨v', h1, h2⟩ := h.2.1.get t v ht
      have hlt : t < a.tmps.size := by rw [← Array.length_toList]; exact (List.getElem?_eq_some_iff.1 h1).1
      have : a.tmps.getD t undef = v' := by
        simp only [Array.getD, dif_pos hlt]
        have e := List.getElem?_eq_some_iff.1 h1
        obtain ⟨e1, e2⟩ := e
        rw [← e2]; simp
      rw [this]
      exact h2
  | const v =>
    simp only [ev, Act.eval]
    cases hp : plain v with
    | true => exact (R_plain hp).2 rfl
    | false => exact R_unk r v
  | global g => exact R_unk r _
  | func f => exact rfl
theorem eval_plain {w0 : World} {keep : Nat → Prop} {r : Ren} {st : St} {a : Act} {w : World} (h : RelAt w0 keep r st a w) {x : Operand} (hx : okOpnd st.tmps x = true) : a.eval x = ev st.tmps x := (R_plain hx).1 (eval_R h x)
end Go.Proofs.Ytagnkjdobkdhmab.Vx
