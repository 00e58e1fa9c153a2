/-
  The executor's memory against the machine's. Nothing here is trusted.
-/
import Derived.Test.YtjhijkdicmbbiaaKaa

namespace Go.Proofs.Ytjhijkdicmbbiaa.Vx
open Go Go.RowKit

def CellsAt (r : Ren) (cs : Array Value) (off : Nat) (c : List Value) : Prop := ∀ (k : Nat) v, c[k]? = some v → ∃ v', cs[off + k]? = some v' ∧ R0 r v v'
theorem CellsAt.ext {r r' : Ren} (he : Ext r r') {cs : Array Value} {off : Nat} {c : List Value} (h : CellsAt r cs off c) : CellsAt r' cs off c := fun k v hv => by
  obtain ⟨v', h1, h2⟩ := h k v hv
  exact ⟨v', h1, h2.ext he⟩

def encK (k : List Int) : Value := .agg (k.map (Value.int .i64)).toArray
/-- The entries of a map. -/
def MapIs (u : Bool) (n : Nat) : List (List Int × Int) → List MapEntry → Prop
  | [], [] => True
  | e :: l, e' :: l' => (e.1.length = n ∧ e'.key = encK e.1 ∧ e'.val = valU u e.2) ∧ MapIs u n l l'
  | _, _ => False
def BlkRel (w : World) (r : Ren) (p : Place) : Blk → Prop
  | .cells own esz c => p.own = own ∧ p.esz = esz ∧ ∃ cs T fz, (own = false → p.room = 0) ∧ w.heap[p.blk]? = some (.cells cs T fz) ∧ (own = true → fz = (0, 0) ∧ cs.size = p.off + p.room) ∧ CellsAt r cs p.off c
  | .rows own pl esz n row => p.own = own ∧ p.esz = esz ∧ p.n = n ∧ (pl = true → ∀ i, i < n → allL nad0 (row i) = true) ∧ ∃ cs T fz, (own = false → p.room = 0) ∧ w.heap[p.blk]? = some (.cells cs T fz) ∧ (own = true → fz = (0, 0) ∧ cs.size = p.off + p.room) ∧ ∀ i, i < n → (row i).length = esz ∧ CellsAt r cs (p.off + i * esz) (row i)
  | .grow pl esz n row => p.own = true ∧ p.esz = esz ∧ p.n = n ∧ (pl = true → ∀ i, i < n → allL nad0 (row i) = true) ∧ ∃ cs T fz, w.heap[p.blk]? = some (.cells cs T fz) ∧ (fz = (0, 0) ∧ cs.size = p.off + p.room) ∧ ∀ i, i < n → (row i).length = esz ∧ CellsAt r cs (p.off + i * esz) (row i)
  | .view pl esz n row => p.own = false ∧ p.esz = esz ∧ p.n = n ∧ (pl = true → ∀ i, i < n → allL nad0 (row i) = true) ∧ ∃ cs T fz, w.heap[p.blk]? = some (.cells cs T fz) ∧ p.room = 1 ∧ ∀ i, i < n → (row i).length = esz ∧ CellsAt r cs (p.off + i * esz) (row i)
  | .iter s pos => p.own = true ∧ p.off = 0 ∧ w.heap[p.blk]? = some (.stringIter s pos)
  | .mp u n es => p.own = true ∧ p.off = 0 ∧ ∃ es' ck, w.heap[p.blk]? = some (.map es' ck) ∧ MapIs u n es es'.toList
  | _ => False
theorem BlkRel.mono {w w' : World} {r r' : Ren} {p : Place} {k : Blk} (h : BlkRel w r p k) (hw : w'.heap[p.blk]? = w.heap[p.blk]?) (he : Ext r r') : BlkRel w' r' p k := by
  cases k with
  | cells own esz c =>
    obtain ⟨h1, h2, cs, T, fz, h6, h3, h4, h5⟩ := h
    exact ⟨h1, h2, cs, T, fz, h6, by rw [hw]; exact h3, h4, h5.ext he⟩
  | rows own pl esz n row =>
    obtain ⟨h1, h2, h0, hp, cs, T, fz, h6, h3, h4, h5⟩ := h
    exact ⟨h1, h2, h0, hp, cs, T, fz, h6, by rw [hw]; exact h3, h4, fun i hi => ⟨(h5 i hi).1, (h5 i hi).2.ext he⟩⟩
  | grow pl esz n row =>
    obtain ⟨h1, h2, h0, hp, cs, T, fz, h3, h4, h5⟩ := h
    exact ⟨h1, h2, h0, hp, cs, T, fz, by rw [hw]; exact h3, h4, fun i hi => ⟨(h5 i hi).1, (h5 i hi).2.ext he⟩⟩
  | view pl esz n row =>
    obtain ⟨h1, h2, h0, hp, cs, T, fz, h3, h4, h5⟩ := h
    exact ⟨h1, h2, h0, hp, cs, T, fz, by rw [hw]; exact h3, h4, fun i hi => ⟨(h5 i hi).1, (h5 i hi).2.ext he⟩⟩
  | iter s pos => exact ⟨h.1, h.2.1, by rw [hw]; exact h.2.2⟩
  | mp u n es => obtain ⟨h1, h2, es', ck, h3, h4⟩ := h; exact ⟨h1, h2, es', ck, by rw [hw]; exact h3, h4⟩
  | no => exact h
  | gone => exact h
theorem BlkRel.lt {w : World} {r : Ren} {p : Place} {k : Blk} (h : BlkRel w r p k) : p.blk < w.heap.size := by
  have : ∃ o, w.heap[p.blk]? = some o := by
    cases k with
    | cells own esz c => obtain ⟨_, _, cs, T, fz, _, h3, _⟩ := h; exact ⟨_, h3⟩
    | rows own pl esz n row => obtain ⟨_, _, _, _, cs, T, fz, _, h3, _⟩ := h; exact ⟨_, h3⟩
    | grow pl esz n row => obtain ⟨_, _, _, _, cs, T, fz, h3, _⟩ := h; exact ⟨_, h3⟩
    | view pl esz n row => obtain ⟨_, _, _, _, cs, T, fz, h3, _⟩ := h; exact ⟨_, h3⟩
    | iter s pos => exact ⟨_, h.2.2⟩
    | mp u n es => obtain ⟨_, _, es', ck, h3, _⟩ := h; exact ⟨_, h3⟩
    | no => exact h.elim
    | gone => exact h.elim
  obtain ⟨o, h⟩ := this
  exact (Array.getElem?_eq_some_iff.1 h).1

/-- What stays as it was, and of this what may be looked at. -/
structure Keep where
  k : Nat → Prop
  rd : Nat → Prop
  sub : ∀ j, rd j → k j
instance : CoeFun Keep (fun _ => Nat → Prop) := ⟨Keep.k⟩
def isGrow : Option Blk → Prop
  | some (.grow ..) => True
  | _ => False
def isView : Option Blk → Prop
  | some (.view ..) => True
  | _ => False
/-- A block that is not written and is no input lies where another one grows, ahead of its end. -/
def Shares (k : Option Blk) (p q : Place) : Prop := isGrow k ∧ p.off = q.off ∧ p.esz = q.esz ∧ p.n ≤ q.n
structure MemRel (w0 : World) (keep : Keep) (r : Ren) (mem : Mem) (w : World) : Prop where
  os : w.os = w0.os
  tape : w.tape = w0.tape
  output : w.output = w0.output
  drawn : w0.drawn ≤ w.drawn
  size : w0.heap.size ≤ w.heap.size
  klt : ∀ j, keep j → j < w0.heap.size
  kept : ∀ j, keep j → w.heap[j]? = w0.heap[j]?
  none : ∀ b : Nat, (mem[b]? = none ∨ mem[b]? = some .no) → r b = none
  dead : ∀ b : Nat, r b = some Option.none → mem[b]? = some .gone
  blk : ∀ (b : Nat) p, r b = some (some p) → ∃ k, mem[b]? = some k ∧ BlkRel w r p k
  own : ∀ b p, r b = some (some p) → p.own = true → ¬ keep p.blk
  read : ∀ b p, r b = some (some p) → p.own = false → p.room = 0 → keep.rd p.blk
  vw : ∀ b p, r b = some (some p) → p.own = false → p.room ≠ 0 → ¬ keep p.blk
  sep : ∀ b c p q, r b = some (some p) → r c = some (some q) → p.own = false → p.room ≠ 0 → q.own = true → q.blk = p.blk → Shares mem[c]? p q
  inj : ∀ b c p q, r b = some (some p) → r c = some (some q) → p.own = true → q.own = true → p.blk = q.blk → b = c

theorem MemRel.at {w0 : World} {keep : Keep} {r : Ren} {mem : Mem} {w : World} (h : MemRel w0 keep r mem w) {b : Nat} {p : Place} {k : Blk} (hr : r b = some (some p)) (hm : mem[b]? = some k) : BlkRel w r p k := by
  obtain ⟨k', h1, h2⟩ := h.blk b p hr
  rw [hm] at h1
  simp only [Option.some.injEq] at h1
  rw [h1]; exact h2

/-- A place for a block that is made. -/
def Ren.put (r : Ren) (b : Nat) (p : Place) : Ren := fun i => if i = b then some (some p) else r i
theorem Ren.put_ext {r : Ren} {b : Nat} (h : r b = none) (p : Place) : Ext r (r.put b p) := by
  intro i
  by_cases hi : i = b
  · subst hi; exact Or.inl h
  · right; left; simp [Ren.put, hi]

theorem get_push {w : World} {o : Obj} {j : Nat} (h : j < w.heap.size) : (w.heap.push o)[j]? = w.heap[j]? := by
  rw [Array.getElem?_push, if_neg (by omega)]

theorem MemRel.push {w0 w : World} {keep : Keep} {r : Ren} {mem : Mem} (h : MemRel w0 keep r mem w) {b : Nat} (hb : mem[b]? = some .no) {k : Blk} {p : Place} {o : Obj} (hp : p.blk = w.heap.size) (ho : p.own = true) (hk : k ≠ .no)
    (hrel : BlkRel { w with heap := w.heap.push o } (r.put b p) p k) : MemRel w0 keep (r.put b p) (mem.set b k) { w with heap := w.heap.push o } := by
  have hlt : b < mem.length := (List.getElem?_eq_some_iff.1 hb).1
  have hrb := h.none b (Or.inr hb)
  have hl : ∀ (c : Nat) q, r c = some (some q) → q.blk < w.heap.size := fun c q hc => by
    obtain ⟨k, _, hk⟩ := h.blk c q hc
    exact hk.lt
  have hkl : ¬ keep w.heap.size := fun hk => by have := h.klt _ hk; have := h.size; omega
  refine ⟨h.os, h.tape, h.output, h.drawn, ?_, h.klt, ?_, ?_, ?_, ?_, ?_, ?_, ?_, ?_, ?_⟩
  · simp only [Array.size_push]; have := h.size; omega
  · intro j hj
    have := h.klt j hj
    have := h.size
    simp only
    rw [get_push (by omega)]
    exact h.kept j hj
  · intro c hc
    by_cases hcb : c = b
    · subst hcb
      rw [List.getElem?_set_self hlt] at hc
      rcases hc with hc | hc
      · cases hc
      · simp only [Option.some.injEq] at hc; exact absurd hc hk
    · rw [List.getElem?_set_ne (fun e => hcb e.symm)] at hc
      simp only [Ren.put, hcb, if_false]
      exact h.none c hc
  · intro c hc
    by_cases hcb : c = b
    · subst hcb
      simp [Ren.put] at hc
    · simp only [Ren.put, hcb, if_false] at hc
      rw [List.getElem?_set_ne (fun e => hcb e.symm)]
      exact h.dead c hc
  · intro c q hc
    by_cases hcb : c = b
    · subst hcb
      simp only [Ren.put, if_true, Option.some.injEq] at hc
      subst hc
      exact ⟨k, by rw [List.getElem?_set_self hlt], hrel⟩
    · simp only [Ren.put, hcb, if_false] at hc
      obtain ⟨k', h1, h2⟩ := h.blk c q hc
      refine ⟨k', by rw [List.getElem?_set_ne (fun e => hcb e.symm)]; exact h1, h2.mono ?_ (Ren.put_ext hrb p)⟩
      simp only
      rw [get_push h2.lt]
  · intro c q hc hq
    by_cases hcb : c = b
    · subst hcb
      simp only [Ren.put, if_true, Option.some.injEq] at hc
      subst hc
      rw [hp]; exact hkl
    · simp only [Ren.put, hcb, if_false] at hc
      exact h.own c q hc hq
  · intro c q hc hq hz
    by_cases hcb : c = b
    · subst hcb
      simp only [Ren.put, if_true, Option.some.injEq] at hc
      subst hc
      rw [ho] at hq; cases hq
    · simp only [Ren.put, hcb, if_false] at hc
      exact h.read c q hc hq hz
  · intro c q hc hq hz
    by_cases hcb : c = b
    · subst hcb
      simp only [Ren.put, if_true, Option.some.injEq] at hc
      subst hc
      rw [ho] at hq; cases hq
    · simp only [Ren.put, hcb, if_false] at hc
      exact h.vw c q hc hq hz
  · intro c d q s hc hd hq hz hs he
    by_cases hcb : c = b
    · subst hcb
      simp only [Ren.put, if_true, Option.some.injEq] at hc
      subst hc
      rw [ho] at hq; cases hq
    · simp only [Ren.put, hcb, if_false] at hc
      by_cases hdb : d = b
      · subst hdb
        simp only [Ren.put, if_true, Option.some.injEq] at hd
        subst hd
        have := hl c q hc
        omega
      · simp only [Ren.put, hdb, if_false] at hd
        rw [List.getElem?_set_ne (fun e => hdb e.symm)]
        exact h.sep c d q s hc hd hq hz hs he
  · intro c d q s hc hd hq hs hqs
    by_cases hcb : c = b <;> by_cases hdb : d = b
    · omega
    · simp only [Ren.put, hcb, hdb, if_true, if_false, Option.some.injEq] at hc hd
      subst hc
      have := hl d s hd
      omega
    · simp only [Ren.put, hcb, hdb, if_true, if_false, Option.some.injEq] at hc hd
      subst hd
      have := hl c q hc
      omega
    · simp only [Ren.put, hcb, hdb, if_false] at hc hd
      exact h.inj c d q s hc hd hq hs hqs

/-- A world that differs at one block. -/
structure Only (b : Nat) (w w' : World) : Prop where
  oth : ∀ k, k ≠ b → w'.heap[k]? = w.heap[k]?
  size : w'.heap.size = w.heap.size
  os : w'.os = w.os
  tape : w'.tape = w.tape
  output : w'.output = w.output
  drawn : w'.drawn = w.drawn

theorem MemRel.turn {w0 w w' : World} {keep : Keep} {r : Ren} {mem : Mem} (h : MemRel w0 keep r mem w) {b : Nat} {p : Place} {k : Blk} (hr : r b = some (some p)) (ho : p.own = true) (hng : ¬ isGrow mem[b]?) (hw : Only p.blk w w') (hk : BlkRel w' r p k) : MemRel w0 keep r (mem.set b k) w' := by
  obtain ⟨k0, hb, _⟩ := h.blk b p hr
  have hlt : b < mem.length := (List.getElem?_eq_some_iff.1 hb).1
  have hne : ∀ c q, r c = some (some q) → c ≠ b → q.blk ≠ p.blk := fun c q hc hcb e => by
    cases hq : q.own with
    | true => exact hcb (h.inj c b q p hc hr hq ho e)
    | false =>
      by_cases hz : q.room = 0
      · have k1 := h.read c q hc hq hz
        rw [e] at k1
        exact h.own b p hr ho (keep.sub _ k1)
      · exact hng (h.sep c b q p hc hr hq hz ho e.symm).1
  refine ⟨hw.os.trans h.os, hw.tape.trans h.tape, hw.output.trans h.output, by rw [hw.drawn]; exact h.drawn, by rw [hw.size]; exact h.size, h.klt, ?_, ?_, ?_, ?_, h.own, h.read, h.vw, fun c d q s hc hd hq hz hs he => ?_, h.inj⟩
  · intro j hj
    rw [hw.oth j (fun e => by subst e; exact h.own b p hr ho hj)]
    exact h.kept j hj
  · intro c hc
    by_cases hcb : c = b
    · subst hcb
      rw [List.getElem?_set_self hlt] at hc
      rcases hc with hc | hc
      · cases hc
      · simp only [Option.some.injEq] at hc
        subst hc
        exact hk.elim
    · rw [List.getElem?_set_ne (fun e => hcb e.symm)] at hc
      exact h.none c hc
  · intro c hc
    by_cases hcb : c = b
    · subst hcb
      rw [hr] at hc
      simp at hc
    · rw [List.getElem?_set_ne (fun e => hcb e.symm)]
      exact h.dead c hc
  · intro c q hc
    by_cases hcb : c = b
    · subst hcb
      rw [hr] at hc
      simp only [Option.some.injEq] at hc
      subst hc
      exact ⟨k, by rw [List.getElem?_set_self hlt], hk⟩
    · obtain ⟨k', h1, h2⟩ := h.blk c q hc
      exact ⟨k', by rw [List.getElem?_set_ne (fun e => hcb e.symm)]; exact h1, h2.mono (hw.oth _ (hne c q hc hcb)) (Ext.refl r)⟩
  · by_cases hdb : d = b
    · subst hdb
      rw [hr] at hd
      simp only [Option.some.injEq] at hd
      subst hd
      exact absurd (h.sep c d q p hc hr hq hz hs he).1 hng
    · rw [List.getElem?_set_ne (fun e => hdb e.symm)]
      exact h.sep c d q s hc hd hq hz hs he

theorem MemRel.later {w0 w w' : World} {keep : Keep} {r : Ren} {mem : Mem} (h : MemRel w0 keep r mem w) (hb : Below w.heap.size w w') (hd : w.drawn ≤ w'.drawn) : MemRel w0 keep r mem w' := by
  refine ⟨hb.os.trans h.os, hb.tape.trans h.tape, hb.output.trans h.output, Nat.le_trans h.drawn hd, Nat.le_trans h.size hb.size, h.klt, fun j hj => ?_, h.none, h.dead, fun b p hp => ?_, h.own, h.read, h.vw, h.sep, h.inj⟩
  · rw [hb.block j (by have := h.klt j hj; have := h.size; omega)]; exact h.kept j hj
  · obtain ⟨k, h1, h2⟩ := h.blk b p hp
    exact ⟨k, h1, h2.mono (hb.block _ h2.lt) (Ext.refl r)⟩

theorem MemRel.room {w0 w : World} {keep : Keep} {r : Ren} {mem : Mem} (h : MemRel w0 keep r mem w) (n : Nat) : MemRel w0 keep r (mem ++ List.replicate n .no) w := by
  refine ⟨h.os, h.tape, h.output, h.drawn, h.size, h.klt, h.kept, fun b hb => ?_, fun b hb => ?_, fun b p hp => ?_, h.own, h.read, h.vw, fun b c p q hb hc hp hz hq he => ?_, h.inj⟩
  · by_cases hlt : b < mem.length
    · rw [List.getElem?_append_left hlt] at hb; exact h.none b hb
    · exact h.none b (Or.inl (List.getElem?_eq_none (by omega)))
  · have h1 := h.dead b hb
    rw [List.getElem?_append_left (List.getElem?_eq_some_iff.1 h1).1]; exact h1
  · obtain ⟨k, h1, h2⟩ := h.blk b p hp
    exact ⟨k, by rw [List.getElem?_append_left (List.getElem?_eq_some_iff.1 h1).1]; exact h1, h2⟩
  · obtain ⟨k, h1, _⟩ := h.blk c q hc
    rw [List.getElem?_append_left (List.getElem?_eq_some_iff.1 h1).1]
    exact h.sep b c p q hb hc hp hz hq he

def Ren.kill (r : Ren) (b : Nat) : Ren := fun i => if i = b then some none else r i
theorem Ren.kill_ext {r : Ren} {b : Nat} {p : Option Place} (h : r b = some p) : Ext r (r.kill b) := by
  intro i
  by_cases hi : i = b
  · subst hi; right; right; left; exact ⟨⟨p, h⟩, by simp [Ren.kill]⟩
  · right; left; simp [Ren.kill, hi]
/-- A world in which something was drawn is the same memory. -/
theorem MemRel.same {w0 w w' : World} {keep : Keep} {r : Ren} {mem : Mem} (h : MemRel w0 keep r mem w) (ho : w'.os = w.os) (ht : w'.tape = w.tape) (hp : w'.output = w.output) (hd : w.drawn ≤ w'.drawn) (hh : w'.heap = w.heap) : MemRel w0 keep r mem w' := by
  refine ⟨ho.trans h.os, ht.trans h.tape, hp.trans h.output, Nat.le_trans h.drawn hd, by rw [hh]; exact h.size, h.klt, fun j hj => by rw [hh]; exact h.kept j hj, h.none, h.dead, fun b p hb => ?_, h.own, h.read, h.vw, h.sep, h.inj⟩
  obtain ⟨k, k1, k2⟩ := h.blk b p hb
  exact ⟨k, k1, k2.mono (by rw [hh]) (Ext.refl r)⟩
theorem MemRel.killed {w0 w : World} {keep : Keep} {r : Ren} {mem : Mem} (h : MemRel w0 keep r mem w) {b : Nat} {p : Place} (hr : r b = some (some p)) : MemRel w0 keep (r.kill b) (mem.set b .gone) w := by
  obtain ⟨k0, hb, _⟩ := h.blk b p hr
  have hlt : b < mem.length := (List.getElem?_eq_some_iff.1 hb).1
  have hne : ∀ {c : Nat} {q : Place}, (r.kill b) c = some (some q) → c ≠ b ∧ r c = some (some q) := fun {c q} hc => by
    unfold Ren.kill at hc
    split at hc
    · simp at hc
    · rename_i hcb; exact ⟨hcb, hc⟩
  refine ⟨h.os, h.tape, h.output, h.drawn, h.size, h.klt, h.kept, ?_, ?_, ?_, ?_, ?_, ?_, ?_, ?_⟩
  · intro c hc
    by_cases hcb : c = b
    · subst hcb
      rw [List.getElem?_set_self hlt] at hc
      rcases hc with hc | hc <;> cases hc
    · rw [List.getElem?_set_ne (fun e => hcb e.symm)] at hc
      simp only [Ren.kill, hcb, if_false]
      exact h.none c hc
  · intro c hc
    by_cases hcb : c = b
    · subst hcb; rw [List.getElem?_set_self hlt]
    · simp only [Ren.kill, hcb, if_false] at hc
      rw [List.getElem?_set_ne (fun e => hcb e.symm)]
      exact h.dead c hc
  · intro c q hc
    obtain ⟨hcb, hc⟩ := hne hc
    obtain ⟨k', h1, h2⟩ := h.blk c q hc
    exact ⟨k', by rw [List.getElem?_set_ne (fun e => hcb e.symm)]; exact h1, h2.mono rfl (Ren.kill_ext hr)⟩
  · intro c q hc hq
    exact h.own c q (hne hc).2 hq
  · intro c q hc hq
    exact h.read c q (hne hc).2 hq
  · intro c q hc hq
    exact h.vw c q (hne hc).2 hq
  · intro c d q s hc hd hq hz hs he
    rw [List.getElem?_set_ne (fun e => (hne hd).1 e.symm)]
    exact h.sep c d q s (hne hc).2 (hne hd).2 hq hz hs he
  · intro c d q s hc hd
    exact h.inj c d q s (hne hc).2 (hne hd).2
theorem set_snoc (m : Mem) (k k' : Blk) : (m ++ [k']).set m.length k = m ++ [k] := by simp
/-- A block that is made behind all others. -/
theorem MemRel.snoc {w0 w : World} {keep : Keep} {r : Ren} {mem : Mem} (h : MemRel w0 keep r mem w) {k : Blk} {p : Place} {o : Obj} (hp : p.blk = w.heap.size) (ho : p.own = true) (hk : k ≠ .no)
    (hrel : BlkRel { w with heap := w.heap.push o } (r.put mem.length p) p k) : MemRel w0 keep (r.put mem.length p) (mem ++ [k]) { w with heap := w.heap.push o } := by
  have h1 := h.room 1
  have : mem ++ [k] = (mem ++ List.replicate 1 Blk.no).set mem.length k := (set_snoc mem k Blk.no).symm
  rw [this]
  exact h1.push (b := mem.length) (by simp) hp ho hk hrel
/-- A block that is no longer written. -/
def Ren.asV (r : Ren) (b : Nat) (p : Place) : Ren := fun i => if i = b then some (some p.asView) else r i
theorem Ren.asV_ext {r : Ren} {b : Nat} {p : Place} (h : r b = some (some p)) : Ext r (r.asV b p) := by
  intro i
  by_cases hi : i = b
  · subst hi; right; right; right; exact ⟨p, h, by simp [Ren.asV]⟩
  · right; left; simp [Ren.asV, hi]
theorem MemRel.viewed {w0 w : World} {keep : Keep} {r : Ren} {mem : Mem} (h : MemRel w0 keep r mem w) {b : Nat} {p : Place} {k : Blk} (hr : r b = some (some p)) (ho : p.own = true) (hb : mem[b]? = some k) {pl : Bool} {e n : Nat} {row : Nat → List Value} (hk : k = .rows true pl e n row ∨ k = .grow pl e n row) :
    MemRel w0 keep (r.asV b p) (mem.set b (.view pl e n row)) w := by
  have hlt : b < mem.length := (List.getElem?_eq_some_iff.1 hb).1
  have hkr := h.at hr hb
  have hext := Ren.asV_ext hr
  have hview : BlkRel w (r.asV b p) p.asView (.view pl e n row) := by
    rcases hk with rfl | rfl
    · obtain ⟨h1, h2, h0, hp, cs, T, fz, h6, h3, h4, h5⟩ := hkr
      exact ⟨rfl, h2, h0, hp, cs, T, fz, h3, rfl, fun i hi => ⟨(h5 i hi).1, (h5 i hi).2.ext hext⟩⟩
    · obtain ⟨h1, h2, h0, hp, cs, T, fz, h3, h4, h5⟩ := hkr
      exact ⟨rfl, h2, h0, hp, cs, T, fz, h3, rfl, fun i hi => ⟨(h5 i hi).1, (h5 i hi).2.ext hext⟩⟩
  have hc3 : ∀ {c : Nat} {q : Place}, (r.asV b p) c = some (some q) → (c = b ∧ q = p.asView) ∨ (c ≠ b ∧ r c = some (some q)) := fun {c q} hc => by
    unfold Ren.asV at hc
    split at hc
    · rename_i hcb; simp only [Option.some.injEq] at hc; exact Or.inl ⟨hcb, hc.symm⟩
    · rename_i hcb; exact Or.inr ⟨hcb, hc⟩
  refine ⟨h.os, h.tape, h.output, h.drawn, h.size, h.klt, h.kept, ?_, ?_, ?_, ?_, ?_, ?_, ?_, ?_⟩
  · intro c hc
    by_cases hcb : c = b
    · subst hcb
      rw [List.getElem?_set_self hlt] at hc
      rcases hc with hc | hc <;> cases hc
    · rw [List.getElem?_set_ne (fun e => hcb e.symm)] at hc
      simp only [Ren.asV, hcb, if_false]
      exact h.none c hc
  · intro c hc
    by_cases hcb : c = b
    · subst hcb; simp [Ren.asV] at hc
    · simp only [Ren.asV, hcb, if_false] at hc
      rw [List.getElem?_set_ne (fun e => hcb e.symm)]
      exact h.dead c hc
  · intro c q hc
    rcases hc3 hc with ⟨rfl, rfl⟩ | ⟨hcb, hc⟩
    · exact ⟨_, by rw [List.getElem?_set_self hlt], hview⟩
    · obtain ⟨k', h1, h2⟩ := h.blk c q hc
      exact ⟨k', by rw [List.getElem?_set_ne (fun e => hcb e.symm)]; exact h1, h2.mono rfl hext⟩
  · intro c q hc hq
    rcases hc3 hc with ⟨rfl, rfl⟩ | ⟨hcb, hc⟩
    · cases hq
    · exact h.own c q hc hq
  · intro c q hc hq hz
    rcases hc3 hc with ⟨rfl, rfl⟩ | ⟨hcb, hc⟩
    · cases hz
    · exact h.read c q hc hq hz
  · intro c q hc hq hz
    rcases hc3 hc with ⟨rfl, rfl⟩ | ⟨hcb, hc⟩
    · exact h.own c p hr ho
    · exact h.vw c q hc hq hz
  · intro c d q s hc hd hq hz hs he
    rcases hc3 hd with ⟨rfl, rfl⟩ | ⟨hdb, hd2⟩
    · cases hs
    · rw [List.getElem?_set_ne (fun e => hdb e.symm)]
      rcases hc3 hc with ⟨rfl, rfl⟩ | ⟨hcb, hc2⟩
      · exact absurd (h.inj d c s p hd2 hr hs ho he) hdb
      · exact h.sep c d q s hc2 hd2 hq hz hs he
  · intro c d q s hc hd hq hs he
    rcases hc3 hc with ⟨rfl, rfl⟩ | ⟨hcb, hc⟩
    · cases hq
    · rcases hc3 hd with ⟨rfl, rfl⟩ | ⟨hdb, hd⟩
      · cases hs
      · exact h.inj c d q s hc hd hq hs he
/-- A block that lies where none lies that is written. -/
theorem MemRel.adopt {w0 w w' : World} {keep : Keep} {r : Ren} {mem : Mem} (h : MemRel w0 keep r mem w) {q : Place} {k : Blk} (hfree : ∀ c s, r c = some (some s) → s.own = true → s.blk ≠ q.blk) (hnk : ¬ keep q.blk) (hqo : q.own = true) (hw : Only q.blk w w') (hk : k ≠ .no)
    (hsh : ∀ c s, r c = some (some s) → s.own = false → s.room ≠ 0 → s.blk = q.blk → Shares (some k) s q ∧ ∀ k0, BlkRel w r s k0 → BlkRel w' r s k0) (hrel : BlkRel w' (r.put mem.length q) q k) : MemRel w0 keep (r.put mem.length q) (mem ++ [k]) w' := by
  have hnone : r mem.length = Option.none := h.none mem.length (Or.inl (by simp))
  have hext := Ren.put_ext hnone q
  have hself : (mem ++ [k])[mem.length]? = some k := by simp
  have hget : ∀ {c : Nat}, c ≠ mem.length → (mem ++ [k])[c]? = mem[c]? := fun {c} hc => by
    rw [List.getElem?_append]
    split
    · rfl
    · rw [List.getElem?_eq_none (by simp; omega), List.getElem?_eq_none (by omega)]
  have hc3 : ∀ {c : Nat} {s : Place}, (r.put mem.length q) c = some (some s) → (c = mem.length ∧ s = q) ∨ (c ≠ mem.length ∧ r c = some (some s)) := fun {c s} hc => by
    unfold Ren.put at hc
    split at hc
    · rename_i hcb; simp only [Option.some.injEq] at hc; exact Or.inl ⟨hcb, hc.symm⟩
    · rename_i hcb; exact Or.inr ⟨hcb, hc⟩
  refine ⟨hw.os.trans h.os, hw.tape.trans h.tape, hw.output.trans h.output, by rw [hw.drawn]; exact h.drawn, by rw [hw.size]; exact h.size, h.klt, ?_, ?_, ?_, ?_, ?_, ?_, ?_, ?_, ?_⟩
  · intro j hj
    rw [hw.oth j (fun e => by subst e; exact hnk hj)]
    exact h.kept j hj
  · intro c hc
    by_cases hcm : c = mem.length
    · subst hcm
      rw [hself] at hc
      rcases hc with hc | hc
      · cases hc
      · simp only [Option.some.injEq] at hc; exact absurd hc hk
    · rw [hget hcm] at hc
      simp only [Ren.put, hcm, if_false]
      exact h.none c hc
  · intro c hc
    by_cases hcm : c = mem.length
    · subst hcm; simp [Ren.put] at hc
    · simp only [Ren.put, hcm, if_false] at hc
      rw [hget hcm]; exact h.dead c hc
  · intro c s hc
    rcases hc3 hc with ⟨rfl, rfl⟩ | ⟨hcm, hc⟩
    · exact ⟨k, hself, hrel⟩
    · obtain ⟨k', h1, h2⟩ := h.blk c s hc
      refine ⟨k', by rw [hget hcm]; exact h1, ?_⟩
      by_cases hsb : s.blk = q.blk
      · cases hso : s.own with
        | true => exact absurd hsb (hfree c s hc hso)
        | false =>
          by_cases hz : s.room = 0
          · have := h.read c s hc hso hz
            rw [hsb] at this
            exact absurd (keep.sub _ this) hnk
          · exact ((hsh c s hc hso hz hsb).2 k' h2).mono rfl hext
      · exact h2.mono (hw.oth _ hsb) hext
  · intro c s hc hs
    rcases hc3 hc with ⟨rfl, rfl⟩ | ⟨hcm, hc⟩
    · exact hnk
    · exact h.own c s hc hs
  · intro c s hc hs hz
    rcases hc3 hc with ⟨rfl, rfl⟩ | ⟨hcm, hc⟩
    · rw [hqo] at hs; cases hs
    · exact h.read c s hc hs hz
  · intro c s hc hs hz
    rcases hc3 hc with ⟨rfl, rfl⟩ | ⟨hcm, hc⟩
    · rw [hqo] at hs; cases hs
    · exact h.vw c s hc hs hz
  · intro c d s t hc hd hs hz ht he
    rcases hc3 hc with ⟨rfl, rfl⟩ | ⟨hcm, hc⟩
    · rw [hqo] at hs; cases hs
    · rcases hc3 hd with ⟨rfl, rfl⟩ | ⟨hdm, hd⟩
      · rw [hself]; exact (hsh c s ‹r c = some (some s)› hs hz he.symm).1
      · rw [hget hdm]; exact h.sep c d s t ‹r c = some (some s)› hd hs hz ht he
  · intro c d s t hc hd hs ht hst
    rcases hc3 hc with ⟨rfl, rfl⟩ | ⟨hcm, hc⟩
    · rcases hc3 hd with ⟨rfl, rfl⟩ | ⟨hdm, hd⟩
      · rfl
      · exact absurd hst.symm (hfree d t hd ht)
    · rcases hc3 hd with ⟨rfl, rfl⟩ | ⟨hdm, hd⟩
      · exact absurd hst (hfree c s ‹r c = some (some s)› hs)
      · exact h.inj c d s t ‹r c = some (some s)› hd hs ht hst
/-- Where nothing is looked at as it was, what grew may be written. -/
def thawB : Blk → Blk
  | .grow pl e n row => .rows true pl e n row
  | b => b
def noViewB : Blk → Bool
  | .view .. => false
  | _ => true
def allB (p : Blk → Bool) : Mem → Bool
  | [] => true
  | x :: xs => match p x with
    | true => allB p xs
    | false => false
def thaw : Mem → Mem
  | [] => []
  | b :: m => thawB b :: thaw m
theorem allB_iff {p : Blk → Bool} : ∀ {l : Mem}, allB p l = true ↔ ∀ x ∈ l, p x = true
  | [] => by simp [allB]
  | x :: xs => by
    simp only [allB, List.forall_mem_cons]
    cases h : p x with
    | true => simp [allB_iff]
    | false => simp
theorem thaw_get : ∀ (m : Mem) (i : Nat), (thaw m)[i]? = (m[i]?).map thawB
  | [], i => by simp [thaw]
  | b :: m, 0 => by simp [thaw]
  | b :: m, i + 1 => by simp only [thaw, List.getElem?_cons_succ]; exact thaw_get m i
theorem BlkRel.thaw {w : World} {r : Ren} {p : Place} {k : Blk} (h : BlkRel w r p k) : BlkRel w r p (thawB k) := by
  cases k with
  | grow pl e n row =>
    obtain ⟨h1, h2, h0, hp, cs, T, fz, h3, h4, h5⟩ := h
    exact ⟨h1, h2, h0, hp, cs, T, fz, (fun h => by cases h), h3, fun _ => h4, h5⟩
  | _ => exact h
theorem BlkRel.isView {w : World} {r : Ren} {p : Place} {k : Blk} (h : BlkRel w r p k) (h1 : p.own = false) (h2 : p.room ≠ 0) : noViewB k = false := by
  cases k with
  | cells own esz c =>
    obtain ⟨g1, g2, cs, T, fz, h6, _⟩ := h
    exact absurd (h6 (g1.symm.trans h1)) h2
  | rows own pl esz n row =>
    obtain ⟨g1, g2, g0, hp, cs, T, fz, h6, _⟩ := h
    exact absurd (h6 (g1.symm.trans h1)) h2
  | grow pl esz n row => rw [h.1] at h1; cases h1
  | view pl esz n row => rfl
  | iter s pos => rw [h.1] at h1; cases h1
  | mp u n es => rw [h.1] at h1; cases h1
  | no => exact h.elim
  | gone => exact h.elim
theorem MemRel.thawed {w0 w : World} {keep : Keep} {r : Ren} {mem : Mem} (h : MemRel w0 keep r mem w) (hv : allB noViewB mem = true) : MemRel w0 keep r (thaw mem) w := by
  refine ⟨h.os, h.tape, h.output, h.drawn, h.size, h.klt, h.kept, fun b hb => ?_, fun b hb => ?_, fun b p hb => ?_, h.own, h.read, h.vw, fun b c p q hb hc hp hz hq he => ?_, h.inj⟩
  · rw [thaw_get] at hb
    cases hm : mem[b]? with
    | none => exact h.none b (Or.inl hm)
    | some k =>
      rw [hm] at hb
      rcases hb with hb | hb
      · cases hb
      · simp only [Option.map_some, Option.some.injEq] at hb
        refine h.none b (Or.inr ?_)
        rw [hm]
        cases k <;> simp [thawB] at hb ⊢
  · rw [thaw_get, h.dead b hb]; rfl
  · obtain ⟨k, h1, h2⟩ := h.blk b p hb
    exact ⟨thawB k, by rw [thaw_get, h1]; rfl, h2.thaw⟩
  · exfalso
    obtain ⟨k, h1, h2⟩ := h.blk b p hb
    have := h2.isView hp hz
    rw [allB_iff.1 hv k (List.mem_of_getElem? h1)] at this
    cases this
def killVB : Blk → Blk
  | .view .. => .gone
  | b => b
def killV : Mem → Mem
  | [] => []
  | b :: m => killVB b :: killV m
theorem killV_get : ∀ (m : Mem) (i : Nat), (killV m)[i]? = (m[i]?).map killVB
  | [], i => by simp [killV]
  | b :: m, 0 => by simp [killV]
  | b :: m, i + 1 => by simp only [killV, List.getElem?_cons_succ]; exact killV_get m i
theorem killV_none (m : Mem) : allB noViewB (killV m) = true := by
  induction m with
  | nil => rfl
  | cons b m ih =>
    simp only [killV, allB]
    rw [show noViewB (killVB b) = true by cases b <;> rfl]
    exact ih
open Classical in
noncomputable def Ren.noV (r : Ren) : Ren := fun b => if ∃ p, r b = some (some p) ∧ p.own = false ∧ p.room ≠ 0 then some none else r b
theorem Ren.noV_ext (r : Ren) : Ext r r.noV := by
  intro b
  unfold Ren.noV
  split
  · rename_i h; obtain ⟨p, h1, _⟩ := h; exact Or.inr (Or.inr (Or.inl ⟨⟨_, h1⟩, rfl⟩))
  · exact Or.inr (Or.inl rfl)
theorem MemRel.unview {w0 w : World} {keep : Keep} {r : Ren} {mem : Mem} (h : MemRel w0 keep r mem w) : MemRel w0 keep r.noV (killV mem) w := by
  have hc : ∀ {b : Nat} {p : Place}, r.noV b = some (some p) → r b = some (some p) ∧ ¬ (p.own = false ∧ p.room ≠ 0) := fun {b p} hb => by
    unfold Ren.noV at hb
    split at hb
    · simp at hb
    · rename_i hn; exact ⟨hb, fun hp => hn ⟨p, hb, hp⟩⟩
  have hk : ∀ {b : Nat} {p : Place} {k : Blk}, r b = some (some p) → ¬ (p.own = false ∧ p.room ≠ 0) → mem[b]? = some k → killVB k = k := fun {b p k} hb hn hm => by
    cases k with
    | view pl e n row =>
      have := h.at hb hm
      exact absurd ⟨this.1, by obtain ⟨_, _, _, _, _, _, _, _, h1, _⟩ := this; omega⟩ hn
    | _ => rfl
  refine ⟨h.os, h.tape, h.output, h.drawn, h.size, h.klt, h.kept, fun b hb => ?_, fun b hb => ?_, fun b p hb => ?_, fun b p hb => ?_, fun b p hb => ?_, fun b p hb h1 h2 => ?_, fun b c p q hb hc' h1 h2 => ?_, fun b c p q hb hc' => ?_⟩
  · rw [killV_get] at hb
    have hn : r b = Option.none := by
      cases hm : mem[b]? with
      | none => exact h.none b (Or.inl hm)
      | some k =>
        rw [hm] at hb
        rcases hb with hb | hb
        · cases hb
        · simp only [Option.map_some, Option.some.injEq] at hb
          refine h.none b (Or.inr ?_)
          rw [hm]
          cases k <;> simp [killVB] at hb ⊢
    unfold Ren.noV
    split
    · rename_i hp; obtain ⟨p, h1, _⟩ := hp; rw [hn] at h1; cases h1
    · exact hn
  · rw [killV_get]
    unfold Ren.noV at hb
    split at hb
    · rename_i hp
      obtain ⟨p, h1, h2, h3⟩ := hp
      obtain ⟨k, h4, h5⟩ := h.blk b p h1
      have := h5.isView h2 h3
      rw [h4]
      cases k with
      | view pl e n row => rfl
      | _ => simp [noViewB] at this
    · rw [h.dead b hb]; rfl
  · obtain ⟨h1, h2⟩ := hc hb
    obtain ⟨k, h3, h4⟩ := h.blk b p h1
    refine ⟨k, by rw [killV_get, h3]; simp only [Option.map_some, hk h1 h2 h3], h4.mono rfl r.noV_ext⟩
  · exact h.own b p (hc hb).1
  · exact h.read b p (hc hb).1
  · exact absurd ⟨h1, h2⟩ (hc hb).2
  · exact absurd ⟨h1, h2⟩ (hc hb).2
  · exact h.inj b c p q (hc hb).1 (hc hc').1
def RelAt (w0 : World) (keep : Keep) (r : Ren) (st : St) (a : Act) (w : World) : Prop := a.defers = [] ∧ RL (R r) st.tmps a.tmps.toList ∧ MemRel w0 keep r st.mem w
def Rel (w0 : World) (keep : Keep) (r0 : Ren) (st : St) (a : Act) (w : World) : Prop := ∃ r, Ext r0 r ∧ RelAt w0 keep r st a w

theorem R_undef (r : Ren) : R r undef undef := ⟨#[], rfl, trivial⟩
theorem eval_R {w0 : World} {keep : Keep} {r : Ren} {st : St} {a : Act} {w : World} (h : RelAt w0 keep r st a w) (x : Operand) : R r (ev st.tmps x) (a.eval x) := by
  cases x with
  | tmp t =>
    simp only [ev, Act.eval]
    cases ht : st.tmps[t]? with
    | none =>
      have hl := h.2.1.length
      have hs : a.tmps.size ≤ t := by
        have := List.getElem?_eq_none_iff.1 ht
        rw [← Array.length_toList]; omega
      have : a.tmps.getD t undef = undef := by simp [Array.getD, Nat.not_lt.2 hs]
      rw [this]
      exact R_undef r
    | some v =>
      obtain ⟨v', h1, h2⟩ := h.2.1.get t v ht
      have hlt : t < a.tmps.size := by rw [← Array.length_toList]; exact (List.getElem?_eq_some_iff.1 h1).1
      have : a.tmps.getD t undef = v' := by
        simp only [Array.getD, dif_pos hlt]
        have e := List.getElem?_eq_some_iff.1 h1
        obtain ⟨e1, e2⟩ := e
        rw [← e2]; simp
      rw [this]
      exact h2
  | const v =>
    simp only [ev, Act.eval]
    cases hp : plain v with
    | true => exact (R_plain hp).2 rfl
    | false => exact R_unk r v
  | global g => exact R_unk r _
  | func f => exact rfl
theorem eval_plain {w0 : World} {keep : Keep} {r : Ren} {st : St} {a : Act} {w : World} (h : RelAt w0 keep r st a w) {x : Operand} (hx : okOpnd st.tmps x = true) : a.eval x = ev st.tmps x := (R_plain hx).1 (eval_R h x)
end Go.Proofs.Ytjhijkdicmbbiaa.Vx


namespace Go.Proofs.Ytjhijkdicmbbiaa.Vx
open Go Go.RowKit

theorem add_none (b off n : Nat) : (⟨b, off, none⟩ : Addr).add n = ⟨b, off + n, none⟩ := by
  unfold Addr.add; split <;> simp_all
theorem cell_of {w : World} {b : Nat} {cs : Array Value} {T : TypeId} {fz : Nat × Nat} (h : w.heap[b]? = some (.cells cs T fz)) (off : Nat) :
    w.cell? ⟨b, off, none⟩ = cs[off]? := by simp [World.cell?, h]
theorem run_load1 {P : Program} {w : World} {b off : Nat} {cs : Array Value} {T : TypeId} {fz : Nat × Nat} {v : Value} (h : w.heap[b]? = some (.cells cs T fz)) (hv : cs[off]? = some v) :
    (load ⟨b, off, none⟩).run P w = .ok v w := by
  simp only [load, Sem.run, cell_of h, hv]
theorem run_loadFrom {P : Program} {w : World} {b off : Nat} {cs : Array Value} {T : TypeId} {fz : Nat × Nat} (h : w.heap[b]? = some (.cells cs T fz)) :
    ∀ (n i : Nat) (acc : Array Value), off + i + n ≤ cs.size → (loadCellsFrom ⟨b, off, none⟩ i n acc).run P w = .ok (acc ++ ((cs.toList.drop (off + i)).take n).toArray) w
  | 0, i, acc, _ => by simp [loadCellsFrom]
  | n + 1, i, acc, hl => by
    have hlen : cs.toList.length = cs.size := Array.length_toList
    have hi : cs[off + i]? = some (cs.toList[off + i]'(by omega)) := by
      rw [← Array.getElem?_toList, List.getElem?_eq_getElem (by omega)]
    simp only [loadCellsFrom, Sem.run_bind, add_none, run_load1 h hi, Result.andThen_ok]
    rw [run_loadFrom h n (i + 1) _ (by omega)]
    congr 1
    have hd : cs.toList.drop (off + i) = cs.toList[off + i]'(by omega) :: cs.toList.drop (off + i + 1) := List.drop_eq_getElem_cons (by omega)
    rw [hd, List.take_succ_cons]
    apply Array.ext'
    simp [Nat.add_assoc]
theorem underlying_run {P : Program} {t : TypeId} {d : TypeDesc} (h : P.underlying t = some d) (w : World) : (underlying t).run P w = .ok d w := run_underlying h w
theorem sizeOf_run {P : Program} {t : TypeId} {i : TypeInfo} (h : P.info? t = some i) (w : World) : (sizeOf t).run P w = .ok i.size w := by
  have := run_sizeOf (P := P) w h
  simpa [Program.cellsOf, h] using this
theorem isAgg_run {P : Program} {t : TypeId} {b : Bool} (h : isAggT P t = some b) (w : World) : (isAgg t).run P w = .ok b w := by
  unfold isAggT at h
  cases hu : P.underlying t with
  | none => simp [hu] at h
  | some d =>
    simp only [isAgg, Sem.run_bind, underlying_run hu, Result.andThen_ok]
    cases d <;> simp_all
theorem zeroValue_run {P : Program} {t : TypeId} {i : TypeInfo} {z : Value} (hi : P.info? t = some i) (hz : i.zero = some z) (w : World) : (zeroValue t).run P w = .ok z w := by
  simp only [zeroValue, Sem.run_bind, run_typeInfo w hi, Result.andThen_ok, hz]
  rfl

/-- The cells at an address, in the machine. -/
theorem at_run {w : World} {r : Ren} {p : Place} {k : Blk} (hk : BlkRel w r p k) {a : Addr} {n : Nat} {l : List Value} (h : k.at a n = some l) (hh : p.has a 1) :
    ∃ cs T fz, w.heap[p.blk]? = some (.cells cs T fz) ∧ (p.addr a).off + n ≤ cs.size ∧ RL (R0 r) l ((cs.toList.drop (p.addr a).off).take n) := by
  have key : ∀ {cs : Array Value} {off : Nat} {c : List Value}, CellsAt r cs off c → ∀ (o : Nat), 0 < n → o + n ≤ c.length → off + o + n ≤ cs.size ∧ RL (R0 r) ((c.drop o).take n) ((cs.toList.drop (off + o)).take n) := by
    intro cs off c hc o hn ho
    have hsz : off + o + n ≤ cs.size := by
      obtain ⟨v', h1, _⟩ := hc (o + n - 1) (c[o + n - 1]'(by omega)) (List.getElem?_eq_getElem (by omega))
      have := (Array.getElem?_eq_some_iff.1 h1).1
      omega
    refine ⟨hsz, RL.of_get (by simp; omega) fun i v v' h1 h2 => ?_⟩
    rw [List.getElem?_take] at h1 h2
    split at h1
    · rename_i hi
      rw [if_pos hi, List.getElem?_drop, Array.getElem?_toList] at h2
      rw [List.getElem?_drop] at h1
      obtain ⟨v'', h3, h4⟩ := hc (o + i) v h1
      rw [show off + (o + i) = off + o + i by omega, h2] at h3
      simp only [Option.some.injEq] at h3
      rw [h3]; exact h4
    · cases h1
  have rowk : ∀ {cs : Array Value} {T : TypeId} {fz : Nat × Nat} {esz m : Nat} {row : Nat → List Value}, p.esz = esz → p.n = m → w.heap[p.blk]? = some (.cells cs T fz) → (∀ i, i < m → (row i).length = esz ∧ CellsAt r cs (p.off + i * esz) (row i)) → (match a.spot with
      | some i => match Nat.blt 0 n && Nat.ble (a.off + n) esz with
        | true => some (((row i).drop a.off).take n)
        | false => none
      | none => none) = some l → ∃ cs T fz, w.heap[p.blk]? = some (.cells cs T fz) ∧ (p.addr a).off + n ≤ cs.size ∧ RL (R0 r) l ((cs.toList.drop (p.addr a).off).take n) := by
    intro cs T fz esz m row h2 h0 h3 h5 h
    split at h
    · rename_i i hs
      split at h
      · rename_i hb
        simp only [Bool.and_eq_true] at hb
        simp only [Option.some.injEq] at h
        subst h
        have hi : i < m := by have := hh i hs; omega
        have hn : 0 < n := Nat.blt_eq.mp hb.1
        have := key (h5 i hi).2 a.off hn (by rw [(h5 i hi).1]; exact Nat.le_of_ble_eq_true hb.2)
        refine ⟨cs, T, fz, h3, ?_⟩
        simp only [Place.addr, hs, Option.getD_some, h2]
        exact this
      · cases h
    · cases h
  cases k with
  | cells own esz c =>
    obtain ⟨h1, h2, cs, T, fz, h6, h3, h4, h5⟩ := hk
    simp only [Blk.at] at h
    split at h
    · rename_i hs
      split at h
      · rename_i hb
        simp only [Bool.and_eq_true] at hb
        simp only [Option.some.injEq] at h
        subst h
        have hn : 0 < n := Nat.blt_eq.mp hb.1
        have := key h5 a.off hn (Nat.le_of_ble_eq_true hb.2)
        refine ⟨cs, T, fz, h3, ?_⟩
        simp only [Place.addr, hs, Option.getD_none, Nat.zero_mul, Nat.add_zero]
        exact this
      · cases h
    · cases h
  | rows own pl esz m row =>
    obtain ⟨h1, h2, h0, _, cs, T, fz, _, h3, _, h5⟩ := hk
    exact rowk h2 h0 h3 h5 h
  | grow pl esz m row =>
    obtain ⟨h1, h2, h0, _, cs, T, fz, h3, _, h5⟩ := hk
    exact rowk h2 h0 h3 h5 h
  | view pl esz m row =>
    obtain ⟨h1, h2, h0, _, cs, T, fz, h3, _, h5⟩ := hk
    exact rowk h2 h0 h3 h5 h
  | _ => simp [Blk.at] at h

theorem load_run {P : Program} {w : World} {r : Ren} {p : Place} {k : Blk} (hk : BlkRel w r p k) {a : Addr} {t : TypeId} {v : Value} (h : (loadB P t a k).res = some v) (hh : p.has a 1) :
    ∃ v', (loadVar t (p.addr a)).run P w = .ok v' w ∧ R r v v' := by
  unfold loadB at h
  cases hi : P.info? t with
  | none => simp [hi, Ans.res] at h
  | some i =>
    simp only [hi] at h
    cases hl : k.at a i.size with
    | none => simp [hl, Ans.res] at h
    | some l =>
      simp only [hl] at h
      obtain ⟨cs, T, fz, h1, h2, h3⟩ := at_run hk hl hh
      unfold partV at h
      cases ha : isAggT P t with
      | none => simp [ha, Ans.res] at h
      | some q =>
        have hp : p.addr a = ⟨p.blk, (p.addr a).off, none⟩ := rfl
        cases q with
        | true =>
          simp only [ha, Ans.res, Option.some.injEq] at h
          subst h
          refine ⟨.agg ((cs.toList.drop (p.addr a).off).take i.size).toArray, ?_, ⟨_, rfl, by simpa using h3⟩⟩
          simp only [loadVar, Sem.run_bind, isAgg_run ha, Result.andThen_ok, if_true, sizeOf_run hi, loadCells]
          rw [hp, run_loadFrom h1 _ 0 _ (by omega)]
          simp
        | false =>
          simp only [ha] at h
          split at h
          · rename_i u
            split at h
            · rename_i hs
              simp only [Ans.res, Option.some.injEq] at h
              subst h
              obtain ⟨v', g1, g2⟩ := h3.get 0 u rfl
              refine ⟨v', ?_, (R0_R hs).2 g2⟩
              simp only [loadVar, Sem.run_bind, isAgg_run ha, Result.andThen_ok, Bool.false_eq_true, if_false]
              rw [hp]
              refine run_load1 h1 ?_
              rw [List.getElem?_take] at g1
              split at g1
              · rw [List.getElem?_drop, Array.getElem?_toList] at g1; simpa using g1
              · cases g1
            · simp [Ans.res] at h
          · simp [Ans.res] at h

def flat (v : Value) : Bool := match v with
  | .agg _ | .tuple _ => false
  | _ => true
theorem R0_flat {r : Ren} {v v' : Value} (h : R0 r v v') (hs : scalar v = true) : flat v' = true := by
  unfold R0 at h
  cases v with
  | pointer a => cases a with
    | none => cases h; rfl
    | some a =>
      simp only at h
      revert h
      cases r a.block with
      | none => exact fun h => h.elim
      | some q => cases q with
        | none => rintro ⟨q, rfl⟩; rfl
        | some p => rintro ⟨rfl, _⟩; rfl
  | slice a n c => cases a with
    | none => cases h; rfl
    | some a =>
      simp only at h
      revert h
      cases r a.block with
      | none => exact fun h => h.elim
      | some q => cases q with
        | none => rintro ⟨q, c, rfl, _⟩; rfl
        | some p => rintro ⟨c, rfl, _⟩; rfl
  | map a => cases a with
    | none => cases h; rfl
    | some a =>
      simp only at h
      revert h
      cases r a with
      | none => exact fun h => h.elim
      | some q => cases q with
        | none => rintro ⟨q, rfl⟩; rfl
        | some p => rintro rfl; rfl
  | iface t u => cases u <;> first | (simp [scalar] at hs; done) | (obtain ⟨_, rfl, _⟩ := h; rfl; done) | (obtain ⟨_, _, rfl, _⟩ := h; rfl; done) | (cases h; rfl)
  | agg cs => simp [scalar] at hs
  | tuple cs => simp [scalar] at hs
  | _ => cases h; rfl
theorem RL_flat {r : Ren} : ∀ {l l' : List Value}, RL (R0 r) l l' → allL scalar l = true → allL flat l' = true
  | [], [], _, _ => rfl
  | x :: l, y :: l', h, hs => by
    have hx := (allL_iff.1 hs) x (by simp)
    have hl : allL scalar l = true := allL_iff.2 fun z hz => (allL_iff.1 hs) z (by simp [hz])
    simp only [allL, R0_flat h.1 hx]
    exact RL_flat h.2 hl
  | [], _ :: _, h, _ => h.elim
  | _ :: _, [], h, _ => h.elim
theorem setMany_length : ∀ (vs : List Value) (off : Nat) (l : List Value), (setMany l off vs).length = l.length
  | [], _, _ => rfl
  | v :: vs, off, l => by simp [setMany, setMany_length vs]
theorem setMany_get : ∀ (vs : List Value) (off : Nat) (l : List Value) (i : Nat), off + vs.length ≤ l.length → (setMany l off vs)[i]? = if off ≤ i ∧ i < off + vs.length then vs[i - off]? else l[i]?
  | [], off, l, i, _ => by simp [setMany]; omega
  | v :: vs, off, l, i, h => by
    simp only [List.length_cons] at h ⊢
    simp only [setMany]
    rw [setMany_get vs (off + 1) (l.set off v) i (by simp; omega), List.getElem?_set]
    by_cases h1 : off + 1 ≤ i ∧ i < off + 1 + vs.length
    · rw [if_pos h1, if_pos (by omega), show i - off = (i - (off + 1)) + 1 by omega, List.getElem?_cons_succ]
    · rw [if_neg h1]
      by_cases h2 : off = i
      · subst h2
        rw [if_pos rfl, if_pos (by omega), if_pos (by omega)]
        simp
      · rw [if_neg h2, if_neg (by omega)]
theorem run_storeCells {P : Program} {b off : Nat} {T : TypeId} : ∀ (vs : List Value) (i : Nat) (cs : Array Value) (w : World), w.heap[b]? = some (.cells cs T (0, 0)) → off + i + vs.length ≤ cs.size → allL flat vs = true →
    ∃ w', (storeCells ⟨b, off, none⟩ vs i).run P w = .ok () w' ∧ Only b w w' ∧ w'.heap[b]? = some (.cells (setMany cs.toList (off + i) vs).toArray T (0, 0))
  | [], i, cs, w, h, _, _ => ⟨w, rfl, ⟨fun _ _ => rfl, rfl, rfl, rfl, rfl, rfl⟩, by simpa [setMany] using h⟩
  | v :: vs, i, cs, w, h, hl, hs => by
    have hv : flat v = true := (allL_iff.1 hs) v (by simp)
    have hs' : allL flat vs = true := allL_iff.2 fun z hz => (allL_iff.1 hs) z (by simp [hz])
    simp only [List.length_cons] at hl
    have hc : w.cell? ⟨b, off + i, none⟩ = some (cs[off + i]'(by omega)) := by rw [cell_of h]; exact Array.getElem?_eq_getElem (by omega)
    have hf : w.frozen? ⟨b, off + i, none⟩ = false := by simp [World.frozen?, h]
    have hb : (w.setCell ⟨b, off + i, none⟩ v).heap[b]? = some (.cells (cs.toList.set (off + i) v).toArray T (0, 0)) := by
      simp only [World.setCell, Array.getElem?_modify, h]
      simp
      apply Array.ext'; simp
    obtain ⟨w', hr, hw, hw'⟩ := run_storeCells (P := P) (off := off) vs (i + 1) (cs.toList.set (off + i) v).toArray _ hb (by simp; omega) hs'
    refine ⟨w', ?_, ?_, ?_⟩
    · simp only [storeCells, Sem.run_bind, add_none]
      have : (store ⟨b, off + i, none⟩ v).run P w = .ok () (w.setCell ⟨b, off + i, none⟩ v) := by
        unfold store
        cases v <;> simp [flat] at hv <;> simp [Sem.run, hc, hf]
      rw [this]
      exact hr
    · refine ⟨fun k hk => ?_, ?_, hw.os, hw.tape, hw.output, hw.drawn⟩
      · rw [hw.oth k hk]; exact Below.heap_setCell _ _ _ _ hk
      · rw [hw.size]; simp [World.setCell]
    · rw [hw']
      simp only [setMany, Nat.add_assoc]
theorem CellsAt.store {r : Ren} {cs : Array Value} {off : Nat} {c vs vs' : List Value} {o : Nat} (h : CellsAt r cs off c) (hv : RL (R0 r) vs vs') (ho : o + vs.length ≤ c.length) (hsz : off + o + vs.length ≤ cs.size) :
    CellsAt r (setMany cs.toList (off + o) vs').toArray off (setMany c o vs) := by
  have hl := hv.length
  intro k v hk
  rw [setMany_get vs o c k ho] at hk
  have hcl : cs.toList.length = cs.size := Array.length_toList
  rw [List.getElem?_toArray, setMany_get vs' (off + o) cs.toList (off + k) (by omega)]
  split at hk
  · rename_i hk'
    rw [if_pos (by omega), show off + k - (off + o) = k - o by omega]
    exact hv.get _ v hk
  · rw [if_neg (by omega), Array.getElem?_toList]
    exact h k v hk
/-- Cells aside of a store stay. -/
theorem CellsAt.beside {r : Ren} {cs : Array Value} {off q : Nat} {c vs' : List Value} (h : CellsAt r cs off c) (hsz : q + vs'.length ≤ cs.size) (ha : q + vs'.length ≤ off ∨ off + c.length ≤ q) : CellsAt r (setMany cs.toList q vs').toArray off c := by
  intro k v hk
  have hlt := (List.getElem?_eq_some_iff.1 hk).1
  rw [List.getElem?_toArray, setMany_get vs' q cs.toList (off + k) (by rw [Array.length_toList]; omega), if_neg (by omega), Array.getElem?_toList]
  exact h k v hk
theorem store_run {P : Program} {w : World} {r : Ren} {p : Place} {k k' : Blk} (hk : BlkRel w r p k) {a : Addr} {t : TypeId} {v v' u : Value} (h : (storeB P t a v k).res = some (u, k')) (hh : p.has a 1) (hv : R r v v') :
    ∃ w', (storeVar t (p.addr a) v').run P w = .ok () w' ∧ u = undef ∧ ((p.own = true ∧ Only p.blk w w' ∧ BlkRel w' r p k') ∨ (w' = w ∧ k' = k)) := by
  unfold storeB at h
  cases hi : P.info? t with
  | none => simp [hi, Ans.res] at h
  | some i =>
    simp only [hi] at h
    split at h
    rotate_left
    · simp [Ans.res] at h
    rename_i hb
    simp only [Bool.and_eq_true] at hb
    have hsz : v.cells.size = i.size := Nat.eq_of_beq_eq_true hb.1
    have hc := R_cells hv hb.2
    have hfl := RL_flat hc hb.2
    have hlen := hc.length
    have hsz' : v'.cells.size = i.size := by rw [← Array.length_toList, ← hlen, Array.length_toList]; exact hsz
    have hvl : v'.cells.toList.length = i.size := by rw [Array.length_toList]; exact hsz'
    have hvl0 : v.cells.toList.length = i.size := by rw [Array.length_toList]; exact hsz
    have hrun : ∀ {cs : Array Value} {T : TypeId}, w.heap[p.blk]? = some (.cells cs T (0, 0)) → (p.addr a).off + i.size ≤ cs.size → ∃ w', (storeVar t (p.addr a) v').run P w = .ok () w' ∧ Only p.blk w w' ∧ w'.heap[p.blk]? = some (.cells (setMany cs.toList (p.addr a).off v'.cells.toList).toArray T (0, 0)) := by
      intro cs T h3 h4
      obtain ⟨w', g1, g2, g3⟩ := run_storeCells (P := P) (off := (p.addr a).off) v'.cells.toList 0 cs w h3 (by omega) hfl
      refine ⟨w', ?_, g2, g3⟩
      simp only [storeVar, Sem.run_bind, sizeOf_run hi, Result.andThen_ok]
      simp only [hsz', ne_eq, not_true_eq_false, if_false]
      exact g1
    cases hz : Nat.beq i.size 0 with
    | true =>
      have hz' : i.size = 0 := Nat.eq_of_beq_eq_true hz
      rw [hz] at h
      cases k with
      | cells own esz c =>
        simp only [Ans.res, Option.some.injEq, Prod.mk.injEq] at h
        obtain ⟨rfl, rfl⟩ := h
        refine ⟨w, ?_, rfl, Or.inr ⟨rfl, rfl⟩⟩
        simp only [storeVar, Sem.run_bind, sizeOf_run hi, Result.andThen_ok]
        simp only [hsz', ne_eq, not_true_eq_false, if_false]
        have : v'.cells.toList = [] := List.eq_nil_of_length_eq_zero (by omega)
        rw [this]
        rfl
      | _ => simp [Ans.res] at h
    | false =>
    rw [hz] at h
    cases k with
    | cells own esz c =>
      simp only at h
      split at h
      rotate_left
      · simp [Ans.res] at h
      rename_i hs
      split at h
      rotate_left
      · simp [Ans.res] at h
      rename_i hq
      simp only [Bool.and_eq_true] at hq
      simp only [Ans.res, Option.some.injEq, Prod.mk.injEq] at h
      obtain ⟨rfl, rfl⟩ := h
      obtain ⟨h1, h2, cs, T, fz, h6', h3, h4, h5⟩ := hk
      obtain ⟨rfl, h6⟩ := h4 hq.1
      have hpos : 0 < i.size := Nat.blt_eq.mp hq.2.1
      have hle := Nat.le_of_ble_eq_true hq.2.2
      have hao : (p.addr a).off = p.off + a.off := by simp [Place.addr, hs]
      have hcs : p.off + a.off + i.size ≤ cs.size := by
        obtain ⟨v', g1, _⟩ := h5 (a.off + i.size - 1) (c[a.off + i.size - 1]'(by omega)) (List.getElem?_eq_getElem (by omega))
        have := (Array.getElem?_eq_some_iff.1 g1).1
        omega
      obtain ⟨w', g1, g2, g3⟩ := hrun h3 (by rw [hao]; exact hcs)
      refine ⟨w', g1, rfl, Or.inl ⟨h1.trans hq.1, g2, h1, h2, _, T, (0, 0), h6', g3, fun _ => ⟨rfl, ?_⟩, ?_⟩⟩
      · rw [List.size_toArray, setMany_length, Array.length_toList]; exact h6
      · rw [hao]
        exact h5.store hc (by omega) (by omega)
    | rows own pl esz n row =>
      simp only at h
      split at h
      rotate_left
      · simp [Ans.res] at h
      rename_i j hs
      split at h
      rotate_left
      · simp [Ans.res] at h
      rename_i hq
      simp only [Bool.and_eq_true] at hq
      simp only [Ans.res, Option.some.injEq, Prod.mk.injEq] at h
      obtain ⟨rfl, rfl⟩ := h
      obtain ⟨h1, h2, h0, hplr, cs, T, fz, h6', h3, h4, h5⟩ := hk
      obtain ⟨rfl, h6⟩ := h4 hq.1
      have hpos : 0 < i.size := Nat.blt_eq.mp hq.2.1
      have hle := Nat.le_of_ble_eq_true hq.2.2.1
      have hj : j < n := by have := hh j hs; omega
      have hao : (p.addr a).off = p.off + j * esz + a.off := by simp [Place.addr, hs, h2]
      obtain ⟨hr1, hr2⟩ := h5 j hj
      have hcs : p.off + j * esz + a.off + i.size ≤ cs.size := by
        obtain ⟨v', g1, _⟩ := hr2 (a.off + i.size - 1) ((row j)[a.off + i.size - 1]'(by omega)) (List.getElem?_eq_getElem (by omega))
        have := (Array.getElem?_eq_some_iff.1 g1).1
        omega
      obtain ⟨w', g1, g2, g3⟩ := hrun h3 (by rw [hao]; exact hcs)
      refine ⟨w', g1, rfl, Or.inl ⟨h1.trans hq.1, g2, h1, h2, h0, fun hpl q hqn => ?_, _, T, (0, 0), h6', g3, fun _ => ⟨rfl, ?_⟩, fun q hqn => ?_⟩⟩
      · have hvp : allL nad0 v.cells.toList = true := by
          have := hq.2.2.2
          rw [hpl] at this
          simpa using this
        simp only
        split
        · refine allL_iff.2 fun z hz => ?_
          obtain ⟨k, hk⟩ := List.getElem?_of_mem hz
          rw [setMany_get _ _ _ _ (by omega)] at hk
          split at hk
          · exact allL_iff.1 hvp z (List.mem_of_getElem? hk)
          · exact allL_iff.1 (hplr hpl j hj) z (List.mem_of_getElem? hk)
        · exact hplr hpl q hqn
      · rw [List.size_toArray, setMany_length, Array.length_toList]; exact h6
      · rw [hao]
        by_cases hqj : q = j
        · subst hqj
          simp only [show Nat.beq q q = true from Nat.beq_refl q]
          refine ⟨by rw [setMany_length]; exact hr1, ?_⟩
          exact hr2.store hc (by omega) (by omega)
        · have hf : Nat.beq q j = false := by
            cases hb : Nat.beq q j with
            | false => rfl
            | true => exact absurd (Nat.eq_of_beq_eq_true hb) hqj
          simp only [hf]
          obtain ⟨hs1, hs2⟩ := h5 q hqn
          refine ⟨hs1, hs2.beside (by omega) ?_⟩
          rw [hvl, hs1]
          have : q < j ∨ j < q := by omega
          rcases this with hlt | hlt
          · right
            have : (q + 1) * esz ≤ j * esz := Nat.mul_le_mul_right _ hlt
            rw [Nat.add_mul, Nat.one_mul] at this
            omega
          · left
            have : (j + 1) * esz ≤ q * esz := Nat.mul_le_mul_right _ hlt
            rw [Nat.add_mul, Nat.one_mul] at this
            omega
    | _ => simp [Ans.res] at h
end Go.Proofs.Ytjhijkdicmbbiaa.Vx


namespace Go.Proofs.Ytjhijkdicmbbiaa.Vx
open Go Go.RowKit

theorem part_run {P : Program} {e : TypeId} {i : TypeInfo} (hi : P.info? e = some i) {xs : Array Value} {off : Nat} {x : Value} (hx : mkV P e ((xs.toList.drop off).take i.size) = some x) (w : World) :
    (part e xs off).run P w = .ok x w := by
  unfold mkV at hx
  cases ha : isAggT P e with
  | none => simp [ha] at hx
  | some q =>
    cases q with
    | true =>
      simp only [ha, Option.some.injEq] at hx
      subst hx
      simp only [part, Sem.run_bind, isAgg_run ha, Result.andThen_ok, if_true, sizeOf_run hi]
      simp only [Sem.run_pure]
      congr 2
      apply Array.ext'
      rw [Array.toList_extract]
      simp [List.extract]
    | false =>
      simp only [ha] at hx
      generalize hl2 : (xs.toList.drop off).take i.size = cs at hx
      match cs, hx, hl2 with
      | [v], hx, hv =>
        simp only [Option.some.injEq] at hx
        subst hx
        simp only [part, Sem.run_bind, isAgg_run ha, Result.andThen_ok, Bool.false_eq_true, if_false]
        have : xs[off]? = some v := by
          have h0 : ((xs.toList.drop off).take i.size)[0]? = some v := by rw [hv]; rfl
          rw [List.getElem?_take] at h0
          split at h0
          · rw [List.getElem?_drop] at h0; simpa using h0
          · cases h0
        rw [this]
        rfl
      | [], hx, _ => simp at hx
      | _ :: _ :: _, hx, _ => simp at hx

theorem andAll_cons {x : Option Bool} {l : List (Option Bool)} {r : Bool} (h : andAll (x :: l) = some r) : ∃ b r', x = some b ∧ andAll l = some r' ∧ r = (b && r') := by
  cases x with
  | none => simp [andAll] at h
  | some b =>
    simp only [andAll] at h
    cases hr : andAll l with
    | none => simp [hr] at h
    | some r' => simp [hr] at h; exact ⟨b, r', rfl, rfl, h.symm⟩

theorem eqCells_run {P : Program} : ∀ (d : Nat) (t : TypeId) (xs ys : List Value) (r : Bool), eqCells P d t xs ys = some r → ∃ x y, mkV P t xs = some x ∧ mkV P t ys = some y ∧ ∀ (k : Nat) (w : World), (Op.equalIn (d + k) t x y).run P w = .ok r w
  | 0, _, _, _, _, h => by simp [eqCells] at h
  | d + 1, t, xs, ys, r, h => by
    unfold eqCells at h
    cases hu : P.underlying t with
    | none => simp [hu] at h
    | some kd =>
      simp only [hu] at h
      cases kd with
      | bool =>
        simp only at h
        split at h
        · rename_i a b
          simp only [Option.some.injEq] at h
          subst h
          refine ⟨.bool a, .bool b, by simp [mkV, isAggT, hu], by simp [mkV, isAggT, hu], fun k w => ?_⟩
          rw [show d + 1 + k = (d + k) + 1 by omega]
          simp [Op.equalIn, underlying_run hu]
        · cases h
      | int q =>
        simp only at h
        split at h
        · rename_i k1 a k2 b
          split at h
          · rename_i hk
            simp only [Option.some.injEq] at h
            subst h
            subst hk
            refine ⟨.int k1 a, .int k1 b, by simp [mkV, isAggT, hu], by simp [mkV, isAggT, hu], fun k w => ?_⟩
            rw [show d + 1 + k = (d + k) + 1 by omega]
            simp [Op.equalIn, underlying_run hu]
          · cases h
        · cases h
      | array n e =>
        simp only at h
        cases hi : P.info? e with
        | none => simp [hi] at h
        | some i =>
          simp only [hi] at h
          split at h
          · rename_i hl
            refine ⟨.agg xs.toArray, .agg ys.toArray, by simp [mkV, isAggT, hu], by simp [mkV, isAggT, hu], fun k w => ?_⟩
            rw [show d + 1 + k = (d + k) + 1 by omega, run_equalIn_array w (d + k) xs.toArray ys.toArray hu hi]
            have hcs : P.cellsOf e = i.size := by simp [Program.cellsOf, hi]
            rw [hcs]
            have hmem : ∀ j ∈ List.range n, j < n := fun j hj => List.mem_range.1 hj
            revert r hmem
            generalize List.range n = js
            induction js with
            | nil => intro r h _; simp [andAll] at h; subst h; simp [Op.eqItems]
            | cons j js ih =>
              intro r h hmem
              simp only [List.map_cons] at h
              obtain ⟨b, r', hb, hr', rfl⟩ := andAll_cons h
              obtain ⟨x, y, hx, hy, he⟩ := eqCells_run d e _ _ _ hb
              have hj : j < n := hmem j (by simp)
              have hjn : j * i.size + i.size ≤ n * i.size := by
                have : (j + 1) * i.size ≤ n * i.size := Nat.mul_le_mul_right _ hj
                rw [Nat.add_mul, Nat.one_mul] at this; exact this
              have p1 := part_run (xs := xs.toArray) (off := j * i.size) hi (by simpa using hx) w
              have p2 := part_run (xs := ys.toArray) (off := j * i.size) hi (by simpa using hy) w
              simp only [Op.eqItems, Sem.run_bind, p1, p2, Result.andThen_ok, he k w]
              cases b
              · simp
              · simp only [Bool.not_true, Bool.false_eq_true, if_false, Bool.true_and]
                exact ih r' hr' (fun q hq => hmem q (by simp [hq]))
          · cases h
      | struct fs =>
        simp only at h
        split at h
        · cases h
        · rename_i hst
          have hst' : P.stoodInHeld t = false := by simpa using hst
          refine ⟨.agg xs.toArray, .agg ys.toArray, by simp [mkV, isAggT, hu], by simp [mkV, isAggT, hu], fun k w => ?_⟩
          have hfo : P.fieldsOf t = fs := by simp [Program.fieldsOf, hu]
          rw [show d + 1 + k = (d + k) + 1 by omega, run_equalIn_struct w (d + k) t xs.toArray ys.toArray (by rw [hfo]; exact hu) hst', hfo]
          revert r
          generalize fs.toList = gs
          induction gs with
          | nil => intro r h; simp [andAll] at h; subst h; simp [Op.eqFields]
          | cons f gs ih =>
            intro r h
            simp only [List.map_cons] at h
            obtain ⟨b, r', hb, hr', rfl⟩ := andAll_cons h
            cases hi : P.info? f.type with
            | none => simp [hi] at hb
            | some i =>
              simp only [hi] at hb
              split at hb
              · cases hb
              · rename_i hn
                split at hb
                · rename_i hl
                  have hn' : f.name ≠ "_" := by simpa using hn
                  obtain ⟨x, y, hx, hy, he⟩ := eqCells_run d f.type _ _ _ hb
                  have p1 := part_run (xs := xs.toArray) (off := f.offset) hi (by simpa using hx) w
                  have p2 := part_run (xs := ys.toArray) (off := f.offset) hi (by simpa using hy) w
                  simp only [Op.eqFields, hn', ne_eq, not_false_eq_true, if_true, Sem.run_bind, p1, p2, Result.andThen_ok, he k w]
                  cases b
                  · simp
                  · simp only [Bool.not_true, Bool.false_eq_true, if_false, Bool.true_and]
                    exact ih r' hr'
                · cases hb
      | _ => simp at h


theorem foldl_fill (off : Nat) : ∀ (l : List Value) (k : Nat) (cells : Array Value), (l.zipIdx k).foldl (fun cs (p : Value × Nat) => cs.setIfInBounds (off + p.2) p.1) cells = (setMany cells.toList (off + k) l).toArray
  | [], k, cells => by simp [setMany]
  | v :: l, k, cells => by
    simp only [List.zipIdx_cons, List.foldl_cons, setMany]
    rw [foldl_fill off l (k + 1)]
    simp [Nat.add_assoc]
theorem fold_cells (off : Nat) (v : Value) (cells : Array Value) : v.cells.zipIdx.foldl (fun cs (p : Value × Nat) => cs.setIfInBounds (off + p.2) p.1) cells = (setMany cells.toList off v.cells.toList).toArray := by
  rw [← Array.foldl_toList, Array.toList_zipIdx]
  exact foldl_fill off _ 0 cells
/-- Parts, one by one. -/
def RP (r : Ren) : List (Nat × Value) → List (Nat × Value) → Prop
  | [], [] => True
  | x :: xs, y :: ys => (x.1 = y.1 ∧ R r x.2 y.2) ∧ RP r xs ys
  | _, _ => False
/-- Filling: what is left at the end is all of cells, so each part was, or was overwritten: we ask it of each. -/
theorem fillL_rel {r : Ren} (size : Nat) : ∀ (ps ps' : List (Nat × Value)) (cells cells' l : List Value), RP r ps ps' → RL (R0 r) cells cells' → (∀ x ∈ ps, allL scalar x.2.cells.toList = true) → fillL size cells ps = some l →
    ∃ l', Instr.fill (fun i => some (i * size, size)) cells'.toArray ps' = some l'.toArray ∧ RL (R0 r) l l'
  | [], [], cells, cells', l, _, hc, _, h => by simp [fillL] at h; subst h; exact ⟨cells', by simp [Instr.fill], hc⟩
  | (i, v) :: ps, (i', v') :: ps', cells, cells', l, hp, hc, hs, h => by
    obtain ⟨⟨h1, h2⟩, h3⟩ := hp
    simp only at h1 h2
    subst h1
    simp only [fillL] at h
    split at h
    · rename_i hq
      have hv := R_cells h2 (hs (i, v) (by simp))
      have hlen : v'.cells.size = size := by rw [← Array.length_toList, ← hv.length, Array.length_toList]; exact hq.1
      obtain ⟨l', g1, g2⟩ := fillL_rel size ps ps' _ (setMany cells' (i * size) v'.cells.toList) l h3 (RL.setMany (i * size) hc hv) (fun x hx => hs x (by simp [hx])) h
      refine ⟨l', ?_, g2⟩
      simp only [Instr.fill]
      have hcl := hc.length
      rw [if_neg (by simp; omega)]
      have := fold_cells (i * size) v' cells'.toArray
      simp only at this
      rw [this]
      exact g1
    · cases h
  | [], _ :: _, _, _, _, h, _, _, _ => h.elim
  | _ :: _, [], _, _, _, h, _, _, _ => h.elim
theorem fillF_rel {P : Program} {r : Ren} {fs : Array Field} (places : Array (Nat × Nat)) (hpl : ∀ (i : Nat) (f : Field) (j : TypeInfo), fs[i]? = some f → P.info? f.type = some j → places[i]? = some (f.offset, j.size)) :
    ∀ (ps ps' : List (Nat × Value)) (cells cells' l : List Value), RP r ps ps' → RL (R0 r) cells cells' → (∀ x ∈ ps, allL scalar x.2.cells.toList = true) → fillF P fs cells ps = some l →
    ∃ l', Instr.fill (places[·]?) cells'.toArray ps' = some l'.toArray ∧ RL (R0 r) l l'
  | [], [], cells, cells', l, _, hc, _, h => by simp [fillF] at h; subst h; exact ⟨cells', by simp [Instr.fill], hc⟩
  | (i, v) :: ps, (i', v') :: ps', cells, cells', l, hp, hc, hs, h => by
    obtain ⟨⟨h1, h2⟩, h3⟩ := hp
    simp only at h1 h2
    subst h1
    simp only [fillF] at h
    cases hf : fs[i]? with
    | none => simp [hf] at h
    | some f =>
      simp only [hf] at h
      cases hj : P.info? f.type with
      | none => simp [hj] at h
      | some j =>
        simp only [hj] at h
        split at h
        · rename_i hq
          have hv := R_cells h2 (hs (i, v) (by simp))
          have hlen : v'.cells.size = j.size := by rw [← Array.length_toList, ← hv.length, Array.length_toList]; exact hq.1
          obtain ⟨l', g1, g2⟩ := fillF_rel places hpl ps ps' _ (setMany cells' f.offset v'.cells.toList) l h3 (RL.setMany f.offset hc hv) (fun x hx => hs x (by simp [hx])) h
          refine ⟨l', ?_, g2⟩
          simp only [Instr.fill, hpl i f j hf hj]
          have hcl := hc.length
          rw [if_neg (by simp; omega)]
          have := fold_cells f.offset v' cells'.toArray
          simp only at this
          rw [this]
          exact g1
        · cases h
  | [], _ :: _, _, _, _, h, _, _, _ => h.elim
  | _ :: _, [], _, _, _, h, _, _, _ => h.elim
theorem mapM_places {P : Program} (w : World) : ∀ (fs : List Field), fs.all (fun f => (P.info? f.type).isSome) = true →
    (fs.mapM (fun f => do pure (f.offset, ← sizeOf f.type) : Field → Sem (Nat × Nat))).run P w = .ok (fs.map fun f => (f.offset, ((P.info? f.type).map (·.size)).getD 0)) w
  | [], _ => rfl
  | f :: fs, h => by
    simp only [List.all_cons, Bool.and_eq_true] at h
    obtain ⟨i, hi⟩ := Option.isSome_iff_exists.1 h.1
    rw [List.mapM_cons]
    simp only [Sem.run_bind, sizeOf_run hi, Result.andThen_ok, Sem.run_pure, mapM_places w fs h.2, List.map_cons, hi, Option.map_some, Option.getD_some]
theorem RL_refl {r : Ren} : ∀ {l : List Value}, allL plain0 l = true → RL (R0 r) l l
  | [], _ => trivial
  | x :: l, h => ⟨(R0_plain ((allL_iff.1 h) x (by simp))).2 rfl, RL_refl (allL_iff.2 fun z hz => (allL_iff.1 h) z (by simp [hz]))⟩
theorem buildV_run {P : Program} {r : Ren} {t : TypeId} {ps : List (Nat × Value)} {parts : Array (Nat × Value)} {v : Value} (hp : RP r ps parts.toList) (hs : ∀ x ∈ ps, allL scalar x.2.cells.toList = true) (h : buildV P t ps = some v) (w : World) :
    ∃ v', (Instr.build t parts).run P w = .ok v' w ∧ R r v v' := by
  unfold buildV at h
  cases hi : P.info? t with
  | none => simp [hi] at h
  | some i =>
    cases hu : P.underlying t with
    | none => simp [hi, hu] at h
    | some kd =>
      simp only [hi, hu] at h
      cases kd with
      | array n e =>
        simp only at h
        cases hz : i.zero with
        | none => simp [hz] at h
        | some z =>
          cases hj : P.info? e with
          | none => simp [hz, hj] at h
          | some j =>
            simp only [hz, hj] at h
            split at h
            rotate_left
            · cases h
            rename_i hpz
            cases hf : fillL j.size z.cells.toList ps with
            | none => simp [hf] at h
            | some l =>
              simp only [hf, Option.some.injEq] at h
              subst h
              obtain ⟨l', g1, g2⟩ := fillL_rel j.size _ _ _ _ _ hp (RL_refl hpz) hs hf
              simp only [Array.toArray_toList] at g1
              refine ⟨.agg l'.toArray, ?_, ⟨_, rfl, by simpa using g2⟩⟩
              simp only [Instr.build, Sem.run_bind, zeroValue_run hi hz, Result.andThen_ok, underlying_run hu, sizeOf_run hj, g1]
              rfl
      | struct fs =>
        simp only at h
        cases hz : i.zero with
        | none => simp [hz] at h
        | some z =>
          simp only [hz] at h
          split at h
          · rename_i hall
            simp only [Bool.and_eq_true] at hall
            cases hf : fillF P fs z.cells.toList ps with
            | none => simp [hf] at h
            | some l =>
              simp only [hf, Option.some.injEq] at h
              subst h
              have hm := mapM_places (P := P) w fs.toList hall.2
              obtain ⟨l', g1, g2⟩ := fillF_rel (P := P) (r := r) (fs := fs) (fs.toList.map fun f => (f.offset, ((P.info? f.type).map (·.size)).getD 0)).toArray (by
                intro k f j h1 h2
                simp [h1, h2]) _ _ _ _ _ hp (RL_refl hall.1) hs hf
              simp only [Array.toArray_toList] at g1
              refine ⟨.agg l'.toArray, ?_, ⟨_, rfl, by simpa using g2⟩⟩
              simp only [Instr.build, Sem.run_bind, zeroValue_run hi hz, Result.andThen_ok, underlying_run hu, Array.mapM_eq_mapM_toList]
              rw [map_eq_pure_bind]
              simp only [Sem.run_bind, hm, Result.andThen_ok, Sem.run_pure, g1]
          · cases h
      | _ => simp at h
theorem repl_eq (z : Array Value) : ∀ (n : Nat), 0 < z.size → ((Array.range (n * z.size)).map (z[· % z.size]!)).toList = repl n z.toList := by
  intro n hz
  have hlen : ∀ n, (repl n z.toList).length = n * z.size := by
    intro n
    induction n with
    | zero => simp [repl]
    | succ n ih => simp only [repl, List.length_append, ih, Array.length_toList]; rw [Nat.add_mul, Nat.one_mul]; omega
  have hget : ∀ n i, i < n * z.size → (repl n z.toList)[i]? = z.toList[i % z.size]? := by
    intro n
    induction n with
    | zero => intro i hi; omega
    | succ n ih =>
      intro i hi
      simp only [repl]
      rw [List.getElem?_append, Array.length_toList]
      split
      · rename_i hlt; rw [Nat.mod_eq_of_lt hlt]
      · rename_i hge
        rw [ih (i - z.size) (by rw [Nat.add_mul, Nat.one_mul] at hi; omega)]
        congr 1
        rw [Nat.mod_eq_sub_mod (by omega : i ≥ z.size)]
  apply List.ext_getElem?
  intro i
  by_cases hi : i < n * z.size
  · rw [hget n i hi]
    have hm := Nat.mod_lt i hz
    simp [hi, hm]
  · rw [List.getElem?_eq_none (by simp; omega), List.getElem?_eq_none (by rw [hlen]; omega)]
theorem buildS_run {P : Program} {r : Ren} {t : TypeId} {len : Nat} {ps : List (Nat × Value)} {parts : Array (Nat × Value)} {sz : Nat} {l : List Value} (hp : RP r ps parts.toList) (hs : ∀ x ∈ ps, allL scalar x.2.cells.toList = true) (h : buildS P t len ps = some (sz, l)) (w : World) :
    ∃ l' e, (Instr.buildSlice t len parts).run P w = .ok (.slice (some ⟨w.heap.size, 0, none⟩) len len) { w with heap := w.heap.push (.cells l'.toArray e (0, 0)) } ∧ RL (R0 r) l l' ∧ 0 < sz ∧ l.length = len * sz := by
  unfold buildS at h
  split at h
  rotate_left
  · cases h
  rename_i e hu
  cases hj : P.info? e with
  | none => simp [hj] at h
  | some j =>
    simp only [hj] at h
    cases hz : j.zero with
    | none => simp [hz] at h
    | some z =>
      simp only [hz] at h
      split at h
      rotate_left
      · cases h
      rename_i hb
      simp only [Bool.and_eq_true] at hb
      obtain ⟨b1, b2, b3, b4, b5⟩ := hb
      have b2' : 0 < j.size := Nat.blt_eq.mp b2
      have b3' : z.cells.size = j.size := Nat.eq_of_beq_eq_true b3
      have b5' : len * j.size ≤ 2 ^ 24 := Nat.le_of_ble_eq_true b5
      cases hf : fillL j.size (repl len z.cells.toList) ps with
      | none => simp [hf] at h
      | some l0 =>
        simp only [hf, Option.some.injEq, Prod.mk.injEq] at h
        obtain ⟨rfl, rfl⟩ := h
        have hrep : allL plain0 (repl len z.cells.toList) = true := by
          refine allL_iff.2 fun x hx => allL_iff.1 b1 x ?_
          clear hf b4 b5 b5' hp hs
          induction len with
          | zero => simp [repl] at hx
          | succ n ih => simp only [repl, List.mem_append] at hx; rcases hx with hx | hx
                         · exact hx
                         · exact ih hx
        obtain ⟨l', g1, g2⟩ := fillL_rel j.size _ _ _ _ _ hp (RL_refl (r := r) hrep) hs hf
        have hfl : ∀ (ps : List (Nat × Value)) (c l : List Value), fillL j.size c ps = some l → l.length = c.length := by
          intro ps
          induction ps with
          | nil => intro c l h; simp [fillL] at h; rw [h]
          | cons x ps ih =>
            intro c l h
            simp only [fillL] at h
            split at h
            · rw [ih _ _ h, setMany_length]
            · cases h
        have hrl : (repl len z.cells.toList).length = len * j.size := by
          have e := repl_eq z.cells len (by omega)
          have := congrArg List.length e
          simp at this
          rw [← this, b3']
        refine ⟨l', e, ?_, g2, b2', by rw [hfl _ _ _ hf, hrl]⟩
        rcases Nat.eq_zero_or_pos len with h0 | b4'
        · subst h0
          have e1 : l'.toArray = l'.toArray := rfl
          simp only [Instr.buildSlice, Sem.run_bind, underlying_run hu, Result.andThen_ok, sizeOf_run hj]
          rw [if_neg (by omega), if_pos (by omega)]
          simp only [Sem.run_bind, Sem.run_pure, Result.andThen_ok]
          have e2 : ∀ z : Array Value, (Array.range (0 * j.size)).map (fun x => z[x % z.size]!) = (repl 0 (#[] : Array Value).toList).toArray := fun z => by
            apply Array.ext'
            simp [repl]
          rw [e2, show (repl 0 (#[] : Array Value).toList) = repl 0 z.cells.toList from rfl, g1]
          simp [newRow, newObj, Sem.run]
        have hpos : 0 < len * j.size := Nat.mul_pos b4' b2'
        simp only [Instr.buildSlice, Sem.run_bind, underlying_run hu, Result.andThen_ok, sizeOf_run hj]
        rw [if_neg (by omega), if_neg (by omega)]
        simp only [Sem.run_bind, zeroValue_run hj hz, Result.andThen_ok, Sem.run_pure]
        have e1 : (Array.range (len * j.size)).map (z.cells[· % z.cells.size]!) = (repl len z.cells.toList).toArray := by
          apply Array.ext'
          have := repl_eq z.cells len (by omega)
          rw [b3'] at this ⊢
          simpa using this
        rw [e1, g1]
        simp [newRow, newObj, Sem.run]
      
/-- The part of a row of cells. -/
theorem part_rel {P : Program} {r : Ren} {e : TypeId} {i : TypeInfo} (hi : P.info? e = some i) {xs : List Value} {xs' : Array Value} (hx : RL (R0 r) xs xs'.toList) {off : Nat} {v : Value} (hv : (partV P e ((xs.drop off).take i.size)).res = some v) (w : World) :
    ∃ v', (part e xs' off).run P w = .ok v' w ∧ R r v v' := by
  have hd := RL.take i.size (RL.drop off hx)
  unfold partV at hv
  cases ha : isAggT P e with
  | none => simp [ha, Ans.res] at hv
  | some q =>
    cases q with
    | true =>
      simp only [ha, Ans.res, Option.some.injEq] at hv
      subst hv
      refine ⟨.agg ((xs'.toList.drop off).take i.size).toArray, ?_, ⟨_, rfl, by simpa using hd⟩⟩
      exact part_run hi (by simp [mkV, ha]) w
    | false =>
      simp only [ha] at hv
      generalize hl : (xs.drop off).take i.size = c at hv hd
      generalize hl2 : (xs'.toList.drop off).take i.size = c' at hd
      match c, c', hv, hd, hl2 with
      | [u], [u'], hv, hd, hl2 =>
        simp only at hv
        split at hv
        · rename_i hs
          simp only [Ans.res, Option.some.injEq] at hv
          subst hv
          exact ⟨u', part_run hi (by rw [hl2]; simp [mkV, ha]) w, (R0_R hs).2 hd.1⟩
        · simp [Ans.res] at hv
      | [], _, hv, _, _ => simp [Ans.res] at hv
      | _ :: _ :: _, _, hv, _, _ => simp [Ans.res] at hv
      | [_], [], _, hd, _ => exact hd.elim
      | [_], _ :: _ :: _, _, hd, _ => exact hd.2.elim
theorem partsOk_iff : ∀ {l : List (Nat × Value)}, partsOk l = true → ∀ x ∈ l, allL scalar x.2.cells.toList = true
  | [], _, x, hx => by cases hx
  | y :: l, h, x, hx => by
    simp only [partsOk] at h
    split at h
    · rename_i hy
      rcases List.mem_cons.1 hx with rfl | hx
      · exact hy
      · exact partsOk_iff h x hx
    · cases h
end Go.Proofs.Ytjhijkdicmbbiaa.Vx


namespace Go.Proofs.Ytjhijkdicmbbiaa.Vx
open Go Go.RowKit

/-- What an operation comes to. -/
def Ran (P : Program) (w0 : World) (keep : Keep) (r : Ren) (a : Act) (w : World) (o : Oper) (v : Value) (m : Mem) : Prop :=
  ∃ r' w' v', ((execOp a.eval o).run P w = .ok (.value v') w' ∨ ((execOp a.eval o).run P w = .ok .skip w' ∧ v' = undef)) ∧ R r' v v' ∧ MemRel w0 keep r' m w' ∧ Ext r r'

section
variable {P : Program} {w0 : World} {keep : Keep} {r : Ren} {tm : List Value} {m : Mem} {a : Act} {w : World}

theorem Ran.val {o : Oper} {v v' : Value} (hr : RelAt w0 keep r ⟨tm, m⟩ a w) (h : (execOp a.eval o).run P w = .ok (.value v') w) (hv : R r v v') : Ran P w0 keep r a w o v m :=
  ⟨r, w, v', Or.inl h, hv, hr.2.2, Ext.refl r⟩
theorem run_value {s : Sem Value} {v : Value} {w w' : World} (h : s.run P w = .ok v w') : ((do pure (Next.value (← s)) : Sem Next)).run P w = .ok (.value v) w' := by
  simp only [Sem.run_bind, h, Result.andThen_ok, Sem.run_pure]
theorem run_unit {s : Sem Unit} {w w' : World} (h : s.run P w = .ok () w') : ((do s; pure Next.skip : Sem Next)).run P w = .ok .skip w' := by
  simp only [Sem.run_bind, h, Result.andThen_ok, Sem.run_pure]
theorem sure (q : Addr) : (Instr.sureAddr (.pointer (some q))).run P w = .ok q w := rfl

theorem opVal_run {o : Oper} {v : Value} (hs : ∀ cs b, o.op ≠ .select cs b) (h : opVal P tm o = some v) (hr : RelAt w0 keep r ⟨tm, m⟩ a w) : Ran P w0 keep r a w o v m := by
  unfold opVal at h
  split at h
  · rename_i hall
    have hc : execOp a.eval o = execOp (ev tm) o := execOp_congr o hs fun x hx => eval_plain hr (allO_iff.1 hall x (Array.mem_toList_iff.2 hx))
    split at h
    · rename_i u hv
      split at h
      · rename_i hb
        simp only [Option.some.injEq] at h
        subst h
        exact Ran.val hr (by rw [hc, val?_run _ _ hv w]) ((R_plain hb).2 rfl)
      · cases h
    · cases h
  · cases h

/-- The live place of an address that a value holds. -/
theorem R_ptr {v' : Value} {q : Addr} (h : R r (.pointer (some q)) v') : ∃ q', v' = .pointer (some q') ∧ ((r q.block = some none) ∨ ∃ p, r q.block = some (some p) ∧ q' = p.addr q ∧ p.has q 1) := by
  have h' : R0 r (.pointer (some q)) v' := h
  unfold R0 at h'
  simp only at h'
  revert h'
  cases hq : r q.block with
  | none => exact fun h => h.elim
  | some x => cases x with
    | none => rintro ⟨q', rfl⟩; exact ⟨q', rfl, Or.inl rfl⟩
    | some p => rintro ⟨rfl, h2⟩; exact ⟨_, rfl, Or.inr ⟨p, rfl, rfl, h2⟩⟩
theorem R_sl {v' : Value} {q : Addr} {n e : Nat} (h : R r (.slice (some q) n e) v') : ∃ q' c, v' = .slice (some q') n c ∧ n ≤ c ∧ ((r q.block = some none) ∨ ∃ p, r q.block = some (some p) ∧ q' = p.addr q ∧ p.sl q n e c) := by
  have h' : R0 r (.slice (some q) n e) v' := h
  unfold R0 at h'
  simp only at h'
  revert h'
  cases hq : r q.block with
  | none => exact fun h => h.elim
  | some x => cases x with
    | none => rintro ⟨q', c, rfl, hn⟩; exact ⟨q', c, rfl, hn, Or.inl rfl⟩
    | some p => rintro ⟨c, rfl, h2⟩; exact ⟨_, c, rfl, h2.1, Or.inr ⟨p, rfl, rfl, h2⟩⟩
theorem R_ptr_mk {q q' : Addr} (h : (r q.block = some none) ∨ ∃ p, r q.block = some (some p) ∧ q' = p.addr q ∧ p.has q 1) : R r (.pointer (some q)) (.pointer (some q')) := by
  show R0 r (.pointer (some q)) (.pointer (some q'))
  unfold R0
  simp only
  rcases h with h | ⟨p, h, rfl, h2⟩
  · rw [h]; exact ⟨_, rfl⟩
  · rw [h]; exact ⟨rfl, h2⟩
theorem R_sl_mk {q q' : Addr} {n e c : Nat} (hn : n ≤ c) (h : (r q.block = some none) ∨ ∃ p, r q.block = some (some p) ∧ q' = p.addr q ∧ p.sl q n e c) : R r (.slice (some q) n e) (.slice (some q') n c) := by
  show R0 r (.slice (some q) n e) (.slice (some q') n c)
  unfold R0
  simp only
  rcases h with h | ⟨p, h, rfl, h2⟩
  · rw [h]; exact ⟨_, _, rfl, hn⟩
  · rw [h]; exact ⟨_, rfl, h2⟩
theorem R_int {k : IntKind} {n : Int} {v' : Value} (h : R r (.int k n) v') : v' = .int k n := h
theorem R_bool {b : Bool} {v' : Value} (h : R r (.bool b) v') : v' = .bool b := h
theorem R_str {s : ByteArray} {v' : Value} (h : R r (.string s) v') : v' = .string s := h
theorem boundsI_iff {i : Int} {n : Nat} (h : boundsI i n = true) : 0 ≤ i ∧ i < n := by simpa [boundsI] using h
theorem leI_iff {i : Int} {n : Nat} (h : leI i n = true) : 0 ≤ i ∧ i ≤ n := by simpa [leI] using h

theorem onto_addr {p : Place} {q : Addr} {size i : Nat} (h : q.spot ≠ none → p.esz = size) : p.addr (Addr.onto q size i) = (⟨(p.addr q).block, (p.addr q).off + i * size, none⟩ : Addr) := by
  unfold Addr.onto Place.addr
  cases hs : q.spot with
  | none => simp; omega
  | some j =>
    have he := h (by rw [hs]; simp)
    cases j with
    | zero => simp [he]; omega
    | succ j => simp [he, Nat.add_mul]; omega
theorem onto_block (q : Addr) (size i : Nat) : (Addr.onto q size i).block = q.block := by
  unfold Addr.onto
  split
  · rfl
  · split <;> rfl
theorem onto_has {p : Place} {q : Addr} {size i n k : Nat} (h : p.has q n) (hi : i + k ≤ n) : p.has (Addr.onto q size i) k := by
  intro j hj
  unfold Addr.onto at hj
  cases hs : q.spot with
  | none => simp [hs] at hj
  | some l =>
    have := h l hs
    rw [hs] at hj
    cases l with
    | zero => simp at hj; omega
    | succ l => simp at hj; omega
theorem onto_spot {q : Addr} {size i : Nat} (h : (Addr.onto q size i).spot ≠ none) : q.spot ≠ none := by
  intro e
  apply h
  unfold Addr.onto
  rw [e]

theorem eqGuard_run {op : BinOp} {t : TypeId} {x y : Operand} {xs ys : Array Value} (hop : op = .eql ∨ op = .neq) (h : P.eqGuardType P.depth t = false) (w : World) : (eqGuard op t x y (.agg xs) (.agg ys)).run P w = .ok () w := by
  rcases hop with rfl | rfl <;> simp [eqGuard, program, Sem.run, Sem.run_bind, h]
theorem eqOk_spec {t : TypeId} (h : eqOk P t = true) : P.eqGuardType P.depth t = false ∧ isAggT P t = some true := by
  unfold eqOk at h
  rw [Bool.and_eq_true] at h
  refine ⟨by simpa using h.1, ?_⟩
  have h2 := h.2
  split at h2
  · assumption
  · cases h2
theorem equal_run {t : TypeId} {xs ys : Array Value} {b : Bool} (ha : isAggT P t = some true) (h : eqCells P 9 t xs.toList ys.toList = some b) (w : World) : (Op.equal t (.agg xs) (.agg ys)).run P w = .ok b w := by
  obtain ⟨x, y, hx, hy, he⟩ := eqCells_run 9 t _ _ b h
  simp [mkV, ha] at hx hy
  subst hx
  subst hy
  exact he 9991 w

theorem RP_of (hr : RelAt w0 keep r ⟨tm, m⟩ a w) : ∀ (l : List (Nat × Operand)), RP r (l.map fun p => (p.1, ev tm p.2)) (l.map fun p => (p.1, a.eval p.2))
  | [] => trivial
  | p :: l => ⟨⟨rfl, eval_R hr p.2⟩, RP_of hr l⟩

end
end Go.Proofs.Ytjhijkdicmbbiaa.Vx


namespace Go.Proofs.Ytjhijkdicmbbiaa.Vx
open Go Go.RowKit

section
variable {P : Program} {w0 : World} {keep : Keep} {r : Ren} {tm : List Value} {m m' : Mem} {a : Act} {w : World} {cs : CallsX} {pos : Pos} {v : Value}

theorem valE {cls : Nat} {u : Value} (g : (runE cls pos m (.val u)).res = some (v, m')) : v = u ∧ m' = m := by
  simp only [runE, Ans.res, Option.some.injEq, Prod.mk.injEq] at g
  exact ⟨g.1.symm, g.2.symm⟩
theorem makeE {cls : Nat} {k : Blk} {f : Nat → Value} (g : (runE cls pos m (.make k f)).res = some (v, m')) : ∃ b, m[b]? = some .no ∧ v = f b ∧ m' = m.set b k := by
  simp only [runE] at g
  split at g
  · rename_i b _
    split at g
    · rename_i hb
      simp only [Ans.res, Option.some.injEq, Prod.mk.injEq] at g
      exact ⟨b, hb, g.1.symm, g.2.symm⟩
    · simp [Ans.res] at g
  · simp [Ans.res] at g
theorem readE {cls : Nat} {b : Nat} {f : Blk → Ans Value} (g : (runE cls pos m (.read b f)).res = some (v, m')) : ∃ k, m[b]? = some k ∧ (f k).res = some v ∧ m' = m := by
  simp only [runE] at g
  split at g
  · split at g
    · rename_i k hk
      obtain ⟨u, h1, h2⟩ := Ans.bind_some g
      simp only [Ans.res, Option.some.injEq, Prod.mk.injEq] at h2
      exact ⟨k, hk, by rw [h1, h2.1], h2.2.symm⟩
    · simp [Ans.res] at g
  · simp [Ans.res] at g
theorem updE {cls : Nat} {b : Nat} {f : Blk → Ans (Value × Blk)} (g : (runE cls pos m (.upd b f)).res = some (v, m')) : ∃ k k', m[b]? = some k ∧ (f k).res = some (v, k') ∧ m' = m.set b k' := by
  simp only [runE] at g
  split at g
  · split at g
    · rename_i k hk
      obtain ⟨⟨u, k'⟩, h1, h2⟩ := Ans.bind_some g
      simp only [Ans.res, Option.some.injEq, Prod.mk.injEq] at h2
      exact ⟨k, k', hk, by rw [h1, h2.1], h2.2.symm⟩
    · simp [Ans.res] at g
  · simp [Ans.res] at g

theorem Ran.push {o : Oper} (hr : RelAt w0 keep r ⟨tm, m⟩ a w) {b : Nat} (hb : m[b]? = some .no) {k : Blk} {p : Place} {ob : Obj} {v' : Value} (hp : p.blk = w.heap.size) (ho : p.own = true) (hk : k ≠ .no)
    (hrun : (execOp a.eval o).run P w = .ok (.value v') { w with heap := w.heap.push ob }) (hrel : BlkRel { w with heap := w.heap.push ob } (r.put b p) p k) (hv : R (r.put b p) v v') : Ran P w0 keep r a w o v (m.set b k) :=
  ⟨r.put b p, _, v', Or.inl hrun, hv, hr.2.2.push hb hp ho hk hrel, Ren.put_ext (hr.2.2.none b (Or.inr hb)) p⟩
theorem R_put_ptr {b : Nat} {p : Place} (h0 : p.off = 0) : R (r.put b p) (.pointer (some ⟨b, 0, none⟩)) (.pointer (some ⟨p.blk, 0, none⟩)) :=
  R_ptr_mk (Or.inr ⟨p, by simp [Ren.put], by simp [Place.addr, h0], fun i hi => by simp at hi⟩)
theorem get_push_self (o : Obj) : (w.heap.push o)[w.heap.size]? = some o := by simp
theorem CellsAt_of {l l' : List Value} (h : RL (R0 r) l l') : CellsAt r l'.toArray 0 l := fun k v hk => by
  obtain ⟨v', h1, h2⟩ := h.get k v hk
  exact ⟨v', by simpa using h1, h2⟩

theorem live_of (hr : RelAt w0 keep r ⟨tm, m⟩ a w) {q q' : Addr} {k : Blk} (hk : m[q.block]? = some k) (h : (r q.block = some none) ∨ ∃ p, r q.block = some (some p) ∧ q' = p.addr q ∧ p.has q 1) (hg : k ≠ .gone) : ∃ p, r q.block = some (some p) ∧ q' = p.addr q ∧ p.has q 1 ∧ BlkRel w r p k := by
  rcases h with h | ⟨p, h1, h2, h3⟩
  · have := hr.2.2.dead _ h
    rw [hk] at this
    simp only [Option.some.injEq] at this
    exact absurd this hg
  · exact ⟨p, h1, h2, h3, hr.2.2.at h1 hk⟩

theorem act_move {o : Oper} {x : Operand} (ho : o.op = .move x ∨ o.op = .assign x) (hr : RelAt w0 keep r ⟨tm, m⟩ a w) : Ran P w0 keep r a w o (ev tm x) m := by
  refine Ran.val hr (v' := a.eval x) ?_ (eval_R hr x)
  rcases ho with ho | ho <;> simp only [execOp, ho] <;> rfl
theorem act_make {o : Oper} {t : TypeId} {l l' : List Value} (hr : RelAt w0 keep r ⟨tm, m⟩ a w) {b : Nat} (hb : m[b]? = some .no) (hl : RL (R0 r) l l')
    (hrun : (execOp a.eval o).run P w = .ok (.value (.pointer (some ⟨w.heap.size, 0, none⟩))) { w with heap := w.heap.push (.cells l'.toArray t (0, 0)) }) :
    Ran P w0 keep r a w o (.pointer (some ⟨b, 0, none⟩)) (m.set b (.cells true 0 l)) := by
  refine Ran.push hr hb (p := ⟨w.heap.size, 0, 0, 0, l'.length, true⟩) rfl rfl (by simp) hrun ⟨rfl, rfl, l'.toArray, t, (0, 0), (fun h => by cases h), get_push_self _, fun _ => ⟨rfl, by simp⟩, ?_⟩ (R_put_ptr rfl)
  exact (CellsAt_of hl).ext (Ren.put_ext (hr.2.2.none b (Or.inr hb)) _)
end
end Go.Proofs.Ytjhijkdicmbbiaa.Vx


namespace Go.Proofs.Ytjhijkdicmbbiaa.Vx
open Go Go.RowKit

section
variable {P : Program} {w0 : World} {keep : Keep} {r : Ren} {tm : List Value} {m m' : Mem} {a : Act} {w : World} {cs : CallsX} {pos : Pos} {v : Value} {e : Eff} {cls : Nat}

theorem loadB_gone {k : Blk} {q : Addr} {t : TypeId} {u : Value} (h : (loadB P t q k).res = some u) : k ≠ .gone := by
  rintro rfl
  unfold loadB at h
  split at h
  · simp [Blk.at, Ans.res] at h
  · simp [Ans.res] at h
theorem storeB_gone {k : Blk} {q : Addr} {t : TypeId} {x : Value} {u : Value × Blk} (h : (storeB P t q x k).res = some u) : k ≠ .gone := by
  rintro rfl
  unfold storeB at h
  split at h
  · split at h <;> simp [Ans.res] at h
  · simp [Ans.res] at h

theorem storeB_grow {k : Blk} {q : Addr} {t : TypeId} {x : Value} {u : Value × Blk} (h : (storeB P t q x k).res = some u) : ¬ isGrow (some k) := by
  intro hg
  cases k with
  | grow pl e n row =>
    unfold storeB at h
    cases hi : P.info? t with
    | none => simp [hi, Ans.res] at h
    | some i =>
      simp only [hi] at h
      split at h
      · cases hz : Nat.beq i.size 0 <;> simp [hz, Ans.res] at h
      · simp [Ans.res] at h
  | _ => exact hg

theorem act_load {o : Oper} {t : TypeId} {x : Operand} (ho : o.op = .load t x) (hr : RelAt w0 keep r ⟨tm, m⟩ a w) (h : (effOf0 P cs tm o).res = some e) (g : (runE cls pos m e).res = some (v, m')) : Ran P w0 keep r a w o v m' := by
  unfold effOf0 at h
  simp only [ho] at h
  split at h
  · rename_i q hq
    simp only [Ans.res, Option.some.injEq] at h
    subst h
    obtain ⟨k, h1, h2, rfl⟩ := readE g
    have hx := eval_R hr x
    simp only at hx
    rw [hq] at hx
    obtain ⟨q', hq', hl⟩ := R_ptr hx
    obtain ⟨p, _, rfl, hh, hk⟩ := live_of hr h1 hl (loadB_gone h2)
    obtain ⟨v', g1, g2⟩ := load_run hk h2 hh
    refine Ran.val hr (v' := v') ?_ g2
    simp only [execOp, ho, Instr.loadAt, hq']
    exact run_value (by simp only [Sem.run_bind, sure, Result.andThen_ok, g1])
  · simp [Ans.res] at h

theorem act_store {o : Oper} {t : TypeId} {x y : Operand} (ho : o.op = .store t x y) (hr : RelAt w0 keep r ⟨tm, m⟩ a w) (h : (effOf0 P cs tm o).res = some e) (g : (runE cls pos m e).res = some (v, m')) : Ran P w0 keep r a w o v m' := by
  unfold effOf0 at h
  simp only [ho] at h
  split at h
  · rename_i q hq
    simp only [Ans.res, Option.some.injEq] at h
    subst h
    obtain ⟨k, k', h1, h2, rfl⟩ := updE g
    have hx := eval_R hr x
    simp only at hx
    rw [hq] at hx
    obtain ⟨q', hq', hl⟩ := R_ptr hx
    obtain ⟨p, hp, rfl, hh, hk⟩ := live_of hr h1 hl (storeB_gone h2)
    obtain ⟨w', g1, rfl, hc⟩ := store_run hk h2 hh (eval_R hr y)
    have hmem : MemRel w0 keep r (m.set q.block k') w' := by
      rcases hc with ⟨g3, g4, g5⟩ | ⟨rfl, rfl⟩
      · exact hr.2.2.turn hp g3 (by rw [h1]; exact storeB_grow h2) g4 g5
      · rw [show m.set q.block k' = m from by
          apply List.ext_getElem?
          intro i
          rw [List.getElem?_set]
          split
          · rename_i e1; subst e1; rw [if_pos (List.getElem?_eq_some_iff.1 h1).1]; exact h1.symm
          · rfl]
        exact hr.2.2
    refine ⟨r, w', undef, Or.inr ⟨?_, rfl⟩, R_undef r, hmem, Ext.refl r⟩
    simp only [execOp, ho, Instr.storeAt, hq']
    exact run_unit (by simp only [Sem.run_bind, sure, Result.andThen_ok, g1])
  · simp [Ans.res] at h

theorem act_box {o : Oper} {t : TypeId} {x : Operand} (ho : o.op = .box t x) (hr : RelAt w0 keep r ⟨tm, m⟩ a w) (h : (effOf0 P cs tm o).res = some e) (g : (runE cls pos m e).res = some (v, m')) : Ran P w0 keep r a w o v m' := by
  unfold effOf0 at h
  simp only [ho] at h
  split at h
  · simp [Ans.res] at h
  · split at h
    · rename_i hs
      simp only [Ans.res, Option.some.injEq] at h
      subst h
      obtain ⟨b, hb, rfl, rfl⟩ := makeE g
      refine act_make (t := t) hr hb (R_cells (eval_R hr x) hs) ?_
      simp only [execOp, ho, Instr.box, newVar, newRow, newObj]
      simp [Sem.run]
    · simp [Ans.res] at h

theorem act_alloc {o : Oper} {t : TypeId} (ho : o.op = .alloc t) (hr : RelAt w0 keep r ⟨tm, m⟩ a w) (h : (effOf0 P cs tm o).res = some e) (g : (runE cls pos m e).res = some (v, m')) : Ran P w0 keep r a w o v m' := by
  unfold effOf0 at h
  simp only [ho] at h
  split at h
  · rename_i i hi
    split at h
    · rename_i z hz
      split at h
      · rename_i hs
        simp only [Ans.res, Option.some.injEq] at h
        subst h
        obtain ⟨b, hb, rfl, rfl⟩ := makeE g
        refine act_make (t := t) hr hb (RL_refl hs) ?_
        simp only [execOp, ho, Instr.alloc, newVar, newRow, newObj, Sem.run_bind, zeroValue_run hi hz, Result.andThen_ok]
        simp [Sem.run]
      · simp [Ans.res] at h
    · simp [Ans.res] at h
  · simp [Ans.res] at h

theorem act_indexAddr {o : Oper} {t : TypeId} {x ix : Operand} (ho : o.op = .indexAddr t x ix) (hr : RelAt w0 keep r ⟨tm, m⟩ a w) (h : (effOf0 P cs tm o).res = some e) (g : (runE cls pos m e).res = some (v, m')) : Ran P w0 keep r a w o v m' := by
  unfold effOf0 at h
  simp only [ho] at h
  have hx := eval_R hr x
  have hi := eval_R hr ix
  simp only at hx hi
  split at h
  · rename_i q kd i len el hq hiv hu
    rw [hq] at hx
    rw [hiv] at hi
    obtain ⟨q', hq', hl⟩ := R_ptr hx
    have hi' := R_int hi
    split at h
    · rename_i j hj
      have key : ∀ (sp : Option Nat), q.spot = sp → boundsI i len = true → Ran P w0 keep r a w o (.pointer (some ⟨q.block, q.off + i.toNat * j.size, sp⟩)) m := by
        intro sp hsp hb
        obtain ⟨b1, b2⟩ := boundsI_iff hb
        refine Ran.val hr (v' := .pointer (some (q'.add (i.toNat * j.size)))) ?_ ?_
        · simp only [execOp, ho, Instr.indexAt, hq', hi']
          refine run_value ?_
          simp only [asIntOf, Sem.run_bind, Sem.run_pure, Result.andThen_ok, underlying_run hu, sure]
          simp [b1, b2, sizeOf_run hj]
        · refine R_ptr_mk ?_
          rcases hl with hl | ⟨p, hp, rfl, hh⟩
          · exact Or.inl hl
          · refine Or.inr ⟨p, hp, ?_, fun i' hi' => hh i' (by rw [hsp]; exact hi')⟩
            have : p.addr q = ⟨p.blk, (p.addr q).off, none⟩ := rfl
            rw [this, add_none]
            simp [Place.addr, hsp]; omega
      split at h
      · rename_i hsp
        rcases Ans.br_some h with ⟨hb, h⟩ | ⟨hb, h⟩
        · simp only [Ans.res, Option.some.injEq] at h
          subst h
          obtain ⟨rfl, rfl⟩ := valE g
          exact key none hsp hb
        · simp [Ans.res] at h
      · rename_i sp hsp
        rcases Ans.br_some h with ⟨hb, h⟩ | ⟨hb, h⟩
        · simp only [Ans.res, Option.some.injEq] at h
          subst h
          obtain ⟨rfl, rfl⟩ := valE g
          exact key (some sp) hsp hb
        · simp [Ans.res] at h
    · simp [Ans.res] at h
  · rename_i q len c kd i el hq hiv hu
    rw [hq] at hx
    rw [hiv] at hi
    obtain ⟨q', c', hq', hnc, hl⟩ := R_sl hx
    have hi' := R_int hi
    split at h
    · rename_i j hj
      split at h
      · rename_i hc
        have hc' : j.size = c := Nat.eq_of_beq_eq_true hc
        rcases Ans.br_some h with ⟨hb, h⟩ | ⟨hb, h⟩
        · simp only [Ans.res, Option.some.injEq] at h
          subst h
          obtain ⟨rfl, rfl⟩ := valE g
          obtain ⟨b1, b2⟩ := boundsI_iff hb
          refine Ran.val hr (v' := .pointer (some (q'.add (i.toNat * j.size)))) ?_ ?_
          · simp only [execOp, ho, Instr.indexAt, hq', hi']
            refine run_value ?_
            simp only [asIntOf, Sem.run_bind, Sem.run_pure, Result.andThen_ok, underlying_run hu]
            simp [b1, b2, sizeOf_run hj]
          · refine R_ptr_mk ?_
            rw [onto_block]
            rcases hl with hl | ⟨p, hp, rfl, hh⟩
            · exact Or.inl hl
            · refine Or.inr ⟨p, hp, ?_, onto_has hh.2.1 (by omega)⟩
              rw [onto_addr (fun hs => by rw [hc']; exact hh.2.2.2.1 hs)]
              have : p.addr q = ⟨p.blk, (p.addr q).off, none⟩ := rfl
              rw [this, add_none]
        · simp [Ans.res] at h
      · simp [Ans.res] at h
    · simp [Ans.res] at h
  · simp [Ans.res] at h

theorem act_fieldAddr {o : Oper} {t : TypeId} {x : Operand} {n : Nat} (ho : o.op = .fieldAddr t x n) (hr : RelAt w0 keep r ⟨tm, m⟩ a w) (h : (effOf0 P cs tm o).res = some e) (g : (runE cls pos m e).res = some (v, m')) : Ran P w0 keep r a w o v m' := by
  unfold effOf0 at h
  simp only [ho] at h
  have hx := eval_R hr x
  simp only at hx
  split at h
  · rename_i q fs hq hu
    rw [hq] at hx
    obtain ⟨q', hq', hl⟩ := R_ptr hx
    split at h
    · rename_i f hf
      split at h
      · rename_i j hj
        split at h
        · simp [Ans.res] at h
        · rename_i hz
          have hz' : j.size ≠ 0 := fun e => by rw [e] at hz; simp at hz
          simp only [Ans.res, Option.some.injEq] at h
          subst h
          obtain ⟨rfl, rfl⟩ := valE g
          refine Ran.val hr (v' := .pointer (some (q'.add f.offset))) ?_ ?_
          · simp only [execOp, ho, Instr.fieldAt, hq']
            refine run_value ?_
            simp only [Sem.run_bind, underlying_run hu, Result.andThen_ok, hf, sure, fieldPlace, sizeOf_run hj]
            simp [hz']
          · refine R_ptr_mk ?_
            rcases hl with hl | ⟨p, hp, rfl, hh⟩
            · exact Or.inl hl
            · refine Or.inr ⟨p, hp, ?_, fun i' hi' => hh i' hi'⟩
              have : p.addr q = ⟨p.blk, (p.addr q).off, none⟩ := rfl
              rw [this, add_none]
              simp [Place.addr]; omega
      · simp [Ans.res] at h
    · simp [Ans.res] at h
  · simp [Ans.res] at h

theorem act_nilCheck {o : Oper} {x : Operand} (ho : o.op = .nilCheck x) (hr : RelAt w0 keep r ⟨tm, m⟩ a w) (h : (effOf0 P cs tm o).res = some e) (g : (runE cls pos m e).res = some (v, m')) : Ran P w0 keep r a w o v m' := by
  unfold effOf0 at h
  simp only [ho] at h
  have hx := eval_R hr x
  simp only at hx
  split at h
  · rename_i q hq
    simp only [Ans.res, Option.some.injEq] at h
    subst h
    obtain ⟨rfl, rfl⟩ := valE g
    rw [hq] at hx
    obtain ⟨q', hq', hl⟩ := R_ptr hx
    refine Ran.val hr (v' := .pointer (some q')) ?_ (R_ptr_mk hl)
    simp only [execOp, ho, hq']
    rfl
  · simp [Ans.res] at h

theorem act_pick {o : Oper} {c x y : Operand} (ho : o.op = .pick c x y) (hr : RelAt w0 keep r ⟨tm, m⟩ a w) (h : (effOf0 P cs tm o).res = some e) (g : (runE cls pos m e).res = some (v, m')) : Ran P w0 keep r a w o v m' := by
  unfold effOf0 at h
  simp only [ho] at h
  have hc := eval_R hr c
  simp only at hc
  split at h
  · rename_i q hq
    rw [hq] at hc
    have hc' := R_bool hc
    rcases Ans.br_some h with ⟨rfl, h⟩ | ⟨rfl, h⟩
    · simp only [Ans.res, Option.some.injEq] at h
      subst h
      obtain ⟨rfl, rfl⟩ := valE g
      exact Ran.val hr (by simp only [execOp, ho, hc', asBool]; rfl) (eval_R hr x)
    · simp only [Ans.res, Option.some.injEq] at h
      subst h
      obtain ⟨rfl, rfl⟩ := valE g
      exact Ran.val hr (by simp only [execOp, ho, hc', asBool]; rfl) (eval_R hr y)
  · simp [Ans.res] at h

theorem act_extract {o : Oper} {x : Operand} {n : Nat} (ho : o.op = .extract x n) (hr : RelAt w0 keep r ⟨tm, m⟩ a w) (h : (effOf0 P cs tm o).res = some e) (g : (runE cls pos m e).res = some (v, m')) : Ran P w0 keep r a w o v m' := by
  unfold effOf0 at h
  simp only [ho] at h
  have hx := eval_R hr x
  simp only at hx
  split at h
  · rename_i vs hq
    rw [hq] at hx
    obtain ⟨vs', hv', hl⟩ := hx
    split at h
    · simp [Ans.res] at h
    · rename_i u hnt hu
      simp only [Ans.res, Option.some.injEq] at h
      subst h
      obtain ⟨rfl, rfl⟩ := valE g
      obtain ⟨u', h1, h2⟩ := hl.get n v hu
      have h1' : vs'[n]? = some u' := by simpa using h1
      refine Ran.val hr (v' := u') ?_ ?_
      · simp only [execOp, ho, hv', Instr.extract]
        refine run_value ?_
        simp [h1']
      · exact (R1_R (fun ws e => by subst e; exact hnt ws rfl)).2 h2
    · simp [Ans.res] at h
  · simp [Ans.res] at h

theorem act_build {o : Oper} {t : TypeId} {parts : Array (Nat × Operand)} (ho : o.op = .build t parts) (hr : RelAt w0 keep r ⟨tm, m⟩ a w) (h : (effOf0 P cs tm o).res = some e) (g : (runE cls pos m e).res = some (v, m')) : Ran P w0 keep r a w o v m' := by
  unfold effOf0 at h
  simp only [ho] at h
  split at h
  · rename_i hok
    split at h
    · rename_i u hu
      simp only [Ans.res, Option.some.injEq] at h
      subst h
      obtain ⟨rfl, rfl⟩ := valE g
      obtain ⟨v', g1, g2⟩ := buildV_run (parts := parts.map fun p => (p.1, a.eval p.2)) (by rw [Array.toList_map]; exact RP_of hr parts.toList) (partsOk_iff hok) hu w
      refine Ran.val hr (v' := v') ?_ g2
      simp only [execOp, ho]
      exact run_value g1
    · simp [Ans.res] at h
  · simp [Ans.res] at h

theorem chop_len {e off i k : Nat} {c : List Value} (h : off + k * e ≤ c.length) (hi : i < k) : (chop e off c i).length = e := by
  have : (i + 1) * e ≤ k * e := Nat.mul_le_mul_right _ hi
  rw [Nat.add_mul, Nat.one_mul] at this
  simp [chop]; omega
theorem chop_get {e off i j : Nat} {c : List Value} {v : Value} (h : (chop e off c i)[j]? = some v) : c[off + i * e + j]? = some v := by
  unfold chop at h
  rw [List.getElem?_take] at h
  split at h
  · rw [List.getElem?_drop] at h; exact h
  · cases h
theorem chop_mem {e off i : Nat} {c : List Value} {v : Value} (h : v ∈ chop e off c i) : v ∈ c := List.mem_of_mem_drop (List.mem_of_mem_take h)

theorem act_buildSlice {o : Oper} {t : TypeId} {len : Nat} {parts : Array (Nat × Operand)} (ho : o.op = .buildSlice t len parts) (hr : RelAt w0 keep r ⟨tm, m⟩ a w) (h : (effOf0 P cs tm o).res = some e) (g : (runE cls pos m e).res = some (v, m')) : Ran P w0 keep r a w o v m' := by
  unfold effOf0 at h
  simp only [ho] at h
  split at h
  · rename_i hok
    split at h
    · rename_i sz l hu
      split at h
      · simp only [Ans.res, Option.some.injEq] at h
        subst h
        obtain ⟨b, hb, rfl, rfl⟩ := makeE g
        obtain ⟨l', T, g1, g2, g3, g4⟩ := buildS_run (parts := parts.map fun p => (p.1, a.eval p.2)) (by rw [Array.toList_map]; exact RP_of hr parts.toList) (partsOk_iff hok) hu w
        have hl := g2.length
        refine Ran.push hr hb (p := ⟨w.heap.size, 0, sz, len, l'.length, true⟩) rfl rfl (by simp) (v' := .slice (some ⟨w.heap.size, 0, none⟩) len len) ?_ ⟨rfl, rfl, rfl, fun hpl i _ => allL_iff.2 fun v hv => allL_iff.1 hpl v (chop_mem hv), l'.toArray, T, (0, 0), (fun h => by cases h), get_push_self _, fun _ => ⟨rfl, by simp⟩, fun i hi => ⟨chop_len (k := len) (by omega) hi, fun j v hj => ?_⟩⟩ ?_
        · simp only [execOp, ho]
          exact run_value g1
        · obtain ⟨v', h1, h2⟩ := (CellsAt_of g2).ext (Ren.put_ext (hr.2.2.none b (Or.inr hb)) ⟨w.heap.size, 0, sz, len, l'.length, true⟩) _ v (chop_get hj)
          exact ⟨v', by simpa using h1, h2⟩
        · refine R_sl_mk (Nat.le_refl _) (Or.inr ⟨⟨w.heap.size, 0, sz, len, l'.length, true⟩, by simp [Ren.put], by simp [Place.addr], Nat.le_refl _, fun i hi => ?_, fun _ => rfl, fun _ => rfl, fun _ _ => ?_⟩)
          · simp only [Option.some.injEq] at hi; subst hi; simp
          · simp [Place.addr]; omega
      · simp only [Ans.res, Option.some.injEq] at h
        subst h
        obtain ⟨b, hb, rfl, rfl⟩ := makeE g
        obtain ⟨l', T, g1, g2, g3, g4⟩ := buildS_run (parts := parts.map fun p => (p.1, a.eval p.2)) (by rw [Array.toList_map]; exact RP_of hr parts.toList) (partsOk_iff hok) hu w
        have hl := g2.length
        refine Ran.push hr hb (p := ⟨w.heap.size, 0, sz, 0, l'.length, true⟩) rfl rfl (by simp) (v' := .slice (some ⟨w.heap.size, 0, none⟩) len len) ?_ ⟨rfl, rfl, l'.toArray, T, (0, 0), (fun h => by cases h), get_push_self _, fun _ => ⟨rfl, by simp⟩, ?_⟩ ?_
        · simp only [execOp, ho]
          exact run_value g1
        · exact (CellsAt_of g2).ext (Ren.put_ext (hr.2.2.none b (Or.inr hb)) _)
        · refine R_sl_mk (Nat.le_refl _) (Or.inr ⟨⟨w.heap.size, 0, sz, 0, l'.length, true⟩, by simp [Ren.put], by simp [Place.addr], Nat.le_refl _, fun i hi => by simp at hi, fun _ => rfl, fun h => absurd rfl h, fun _ _ => ?_⟩)
          simp [Place.addr]; omega
    · simp [Ans.res] at h
  · simp [Ans.res] at h

theorem act_field {o : Oper} {t : TypeId} {x : Operand} {n : Nat} (ho : o.op = .field t x n) (hr : RelAt w0 keep r ⟨tm, m⟩ a w) (h : (effOf0 P cs tm o).res = some e) (g : (runE cls pos m e).res = some (v, m')) : Ran P w0 keep r a w o v m' := by
  unfold effOf0 at h
  simp only [ho] at h
  have hx := eval_R hr x
  simp only at hx
  split at h
  · rename_i xs fs hq hu
    rw [hq] at hx
    obtain ⟨xs', hx', hl⟩ := hx
    split at h
    · rename_i f hf
      split at h
      · rename_i j hj
        obtain ⟨u, h1, h2⟩ := Ans.bind_some h
        simp only [Ans.res, Option.some.injEq] at h2
        subst h2
        obtain ⟨rfl, rfl⟩ := valE g
        obtain ⟨v', g1, g2⟩ := part_rel hj hl h1 w
        refine Ran.val hr (v' := v') ?_ g2
        simp only [execOp, ho, hx', Instr.field]
        refine run_value ?_
        simp only [Sem.run_bind, underlying_run hu, Result.andThen_ok, hf, asAgg, Sem.run_pure, g1]
      · simp [Ans.res] at h
    · simp [Ans.res] at h
  · simp [Ans.res] at h

theorem act_index {o : Oper} {t : TypeId} {x ix : Operand} (ho : o.op = .index t x ix) (hr : RelAt w0 keep r ⟨tm, m⟩ a w) (h : (effOf0 P cs tm o).res = some e) (g : (runE cls pos m e).res = some (v, m')) : Ran P w0 keep r a w o v m' := by
  unfold effOf0 at h
  simp only [ho] at h
  have hx := eval_R hr x
  have hi := eval_R hr ix
  simp only at hx hi
  split at h
  · rename_i s kd i hq hiv hu
    rw [hq] at hx
    rw [hiv] at hi
    have hx' := R_str hx
    have hi' := R_int hi
    rcases Ans.br_some h with ⟨hb, h⟩ | ⟨hb, h⟩
    · simp only [Ans.res, Option.some.injEq] at h
      subst h
      obtain ⟨rfl, rfl⟩ := valE g
      obtain ⟨b1, b2⟩ := boundsI_iff hb
      refine Ran.val hr (v' := .int .u8 ((s.data.toList[i.toNat]?).getD 0).toNat) ?_ rfl
      simp only [execOp, ho, hx', hi', Instr.index]
      refine run_value ?_
      have hlt : i.toNat < s.size := by omega
      have e1 : s[i.toNat]? = some (s[i.toNat]'hlt) := by simp [hlt]
      have e2 : s.data.toList[i.toNat]? = some (s[i.toNat]'hlt) := by
        have : i.toNat < s.data.toList.length := by simpa using hlt
        rw [List.getElem?_eq_getElem this]; rfl
      simp only [asIntOf, Sem.run_bind, Sem.run_pure, Result.andThen_ok, underlying_run hu, b1, if_true, e1, e2, Option.getD_some]
    · simp [Ans.res] at h
  · rename_i xs kd i len el hq hiv hu
    rw [hq] at hx
    rw [hiv] at hi
    obtain ⟨xs', hx', hl⟩ := hx
    have hi' := R_int hi
    split at h
    · rename_i j hj
      rcases Ans.br_some h with ⟨hb, h⟩ | ⟨hb, h⟩
      · obtain ⟨u, h1, h2⟩ := Ans.bind_some h
        simp only [Ans.res, Option.some.injEq] at h2
        subst h2
        obtain ⟨rfl, rfl⟩ := valE g
        obtain ⟨b1, b2⟩ := boundsI_iff hb
        obtain ⟨v', g1, g2⟩ := part_rel hj hl h1 w
        refine Ran.val hr (v' := v') ?_ g2
        simp only [execOp, ho, hx', hi', Instr.index]
        refine run_value ?_
        simp only [asIntOf, Sem.run_bind, Sem.run_pure, Result.andThen_ok, underlying_run hu]
        simp [b1, b2, sizeOf_run hj, g1]
      · simp [Ans.res] at h
    · simp [Ans.res] at h
  · simp [Ans.res] at h
end
end Go.Proofs.Ytjhijkdicmbbiaa.Vx
