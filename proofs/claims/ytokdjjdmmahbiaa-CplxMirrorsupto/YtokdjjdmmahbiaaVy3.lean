/-
  The executor's memory against the machine's. Nothing here is trusted.
-/
import Derived.Test.YtokdjjdmmahbiaaVy2
namespace Go.Proofs.Ytokdjjdmmahbiaa.Vx
open Go Go.RowKit

def CellsAt (r : Ren) (cs : Array Value) (off : Nat) (c : List Value) : Prop := ∀ (k : Nat) v, c[k]? = some v → ∃ v', cs[off + k]? = some v' ∧ R0 r v v'
theorem CellsAt.ext {r r' : Ren} (he : Ext r r') {cs : Array Value} {off : Nat} {c : List Value} (h : CellsAt r cs off c) : CellsAt r' cs off c := fun k v hv => by
  obtain ⟨v', h1, h2⟩ := h k v hv
  exact ⟨v', h1, h2.ext he⟩

def encK (k : List Int) : Value := .agg (k.map (Value.int .i64)).toArray
/-- The entries of a map. -/
def MapIs (u : Bool) (n : Nat) : List (List Int × Int) → List MapEntry → Prop
  | [], [] => True
  | e :: l, e' :: l' => (e.1.length = n ∧ e'.key = encK e.1 ∧ e'.val = valU u e.2) ∧ MapIs u n l l'
  | _, _ => False
def BlkRel (w : World) (r : Ren) (p : Place) : Blk → Prop
  | .cells own esz c => p.own = own ∧ p.esz = esz ∧ ∃ cs T fz, (own = false → p.room = 0) ∧ w.heap[p.blk]? = some (.cells cs T fz) ∧ (own = true → fz = (0, 0) ∧ cs.size = p.off + p.room) ∧ CellsAt r cs p.off c
  | .rows own pl esz n row => p.own = own ∧ p.esz = esz ∧ p.n = n ∧ (pl = true → ∀ i, i < n → allL nad0 (row i) = true) ∧ ∃ cs T fz, (own = false → p.room = 0) ∧ w.heap[p.blk]? = some (.cells cs T fz) ∧ (own = true → fz = (0, 0) ∧ cs.size = p.off + p.room) ∧ ∀ i, i < n → (row i).length = esz ∧ CellsAt r cs (p.off + i * esz) (row i)
  | .grow pl esz n row => p.own = true ∧ p.esz = esz ∧ p.n = n ∧ (pl = true → ∀ i, i < n → allL nad0 (row i) = true) ∧ ∃ cs T fz, w.heap[p.blk]? = some (.cells cs T fz) ∧ (fz = (0, 0) ∧ cs.size = p.off + p.room) ∧ ∀ i, i < n → (row i).length = esz ∧ CellsAt r cs (p.off + i * esz) (row i)
  | .view pl esz n row => p.own = false ∧ p.esz = esz ∧ p.n = n ∧ (pl = true → ∀ i, i < n → allL nad0 (row i) = true) ∧ ∃ cs T fz, w.heap[p.blk]? = some (.cells cs T fz) ∧ p.room = 1 ∧ ∀ i, i < n → (row i).length = esz ∧ CellsAt r cs (p.off + i * esz) (row i)
  | .iter s pos => p.own = true ∧ p.off = 0 ∧ w.heap[p.blk]? = some (.stringIter s pos)
  | .mp u n es => p.own = true ∧ p.off = 0 ∧ ∃ es' ck, w.heap[p.blk]? = some (.map es' ck) ∧ MapIs u n es es'.toList
  | _ => False
theorem BlkRel.mono {w w' : World} {r r' : Ren} {p : Place} {k : Blk} (h : BlkRel w r p k) (hw : w'.heap[p.blk]? = w.heap[p.blk]?) (he : Ext r r') : BlkRel w' r' p k := by
  cases k with
  | cells own esz c =>
    obtain ⟨h1, h2, cs, T, fz, h6, h3, h4, h5⟩ := h
    exact ⟨h1, h2, cs, T, fz, h6, by rw [hw]; exact h3, h4, h5.ext he⟩
  | rows own pl esz n row =>
    obtain ⟨h1, h2, h0, hp, cs, T, fz, h6, h3, h4, h5⟩ := h
    exact ⟨h1, h2, h0, hp, cs, T, fz, h6, by rw [hw]; exact h3, h4, fun i hi => ⟨(h5 i hi).1, (h5 i hi).2.ext he⟩⟩
  | grow pl esz n row =>
    obtain ⟨h1, h2, h0, hp, cs, T, fz, h3, h4, h5⟩ := h
    exact ⟨h1, h2, h0, hp, cs, T, fz, by rw [hw]; exact h3, h4, fun i hi => ⟨(h5 i hi).1, (h5 i hi).2.ext he⟩⟩
  | view pl esz n row =>
    obtain ⟨h1, h2, h0, hp, cs, T, fz, h3, h4, h5⟩ := h
    exact ⟨h1, h2, h0, hp, cs, T, fz, by rw [hw]; exact h3, h4, fun i hi => ⟨(h5 i hi).1, (h5 i hi).2.ext he⟩⟩
  | iter s pos => exact ⟨h.1, h.2.1, by rw [hw]; exact h.2.2⟩
  | mp u n es => obtain ⟨h1, h2, es', ck, h3, h4⟩ := h; exact ⟨h1, h2, es', ck, by rw [hw]; exact h3, h4⟩
  | no => exact h
  | gone => exact h
theorem BlkRel.lt {w : World} {r : Ren} {p : Place} {k : Blk} (h : BlkRel w r p k) : p.blk < w.heap.size := by
  have : ∃ o, w.heap[p.blk]? = some o := by
    cases k with
    | cells own esz c => obtain ⟨_, _, cs, T, fz, _, h3, _⟩ := h; exact ⟨_, h3⟩
    | rows own pl esz n row => obtain ⟨_, _, _, _, cs, T, fz, _, h3, _⟩ := h; exact ⟨_, h3⟩
    | grow pl esz n row => obtain ⟨_, _, _, _, cs, T, fz, h3, _⟩ := h; exact ⟨_, h3⟩
    | view pl esz n row => obtain ⟨_, _, _, _, cs, T, fz, h3, _⟩ := h; exact ⟨_, h3⟩
    | iter s pos => exact ⟨_, h.2.2⟩
    | mp u n es => obtain ⟨_, _, es', ck, h3, _⟩ := h; exact ⟨_, h3⟩
    | no => exact h.elim
    | gone => exact h.elim
  obtain ⟨o, h⟩ := this
  exact (Array.getElem?_eq_some_iff.1 h).1

/-- What stays as it was, and of this what may be looked at. -/
structure Keep where
  k : Nat → Prop
  rd : Nat → Prop
  sub : ∀ j, rd j → k j
instance : CoeFun Keep (fun _ => Nat → Prop) := ⟨Keep.k⟩
def isGrow : Option Blk → Prop
  | some (.grow ..) => True
  | _ => False
def isView : Option Blk → Prop
  | some (.view ..) => True
  | _ => False
/-- A block that is not written and is no input lies where another one grows, ahead of its end. -/
def Shares (k : Option Blk) (p q : Place) : Prop := isGrow k ∧ p.off = q.off ∧ p.esz = q.esz ∧ p.n ≤ q.n
structure MemRel (w0 : World) (keep : Keep) (r : Ren) (mem : Mem) (w : World) : Prop where
  os : w.os = w0.os
  tape : w.tape = w0.tape
  output : w.output = w0.output
  drawn : w0.drawn ≤ w.drawn
  size : w0.heap.size ≤ w.heap.size
  klt : ∀ j, keep j → j < w0.heap.size
  kept : ∀ j, keep j → w.heap[j]? = w0.heap[j]?
  none : ∀ b : Nat, (mem[b]? = none ∨ mem[b]? = some .no) → r b = none
  dead : ∀ b : Nat, r b = some Option.none → mem[b]? = some .gone
  blk : ∀ (b : Nat) p, r b = some (some p) → ∃ k, mem[b]? = some k ∧ BlkRel w r p k
  own : ∀ b p, r b = some (some p) → p.own = true → ¬ keep p.blk
  read : ∀ b p, r b = some (some p) → p.own = false → p.room = 0 → keep.rd p.blk
  vw : ∀ b p, r b = some (some p) → p.own = false → p.room ≠ 0 → ¬ keep p.blk
  sep : ∀ b c p q, r b = some (some p) → r c = some (some q) → p.own = false → p.room ≠ 0 → q.own = true → q.blk = p.blk → Shares mem[c]? p q
  inj : ∀ b c p q, r b = some (some p) → r c = some (some q) → p.own = true → q.own = true → p.blk = q.blk → b = c

theorem MemRel.at {w0 : World} {keep : Keep} {r : Ren} {mem : Mem} {w : World} (h : MemRel w0 keep r mem w) {b : Nat} {p : Place} {k : Blk} (hr : r b = some (some p)) (hm : mem[b]? = some k) : BlkRel w r p k := by
  obtain ⟨k', h1, h2⟩ := h.blk b p hr
  rw [hm] at h1
  simp only [Option.some.injEq] at h1
  rw [h1]; exact h2

/-- A place for a block that is made. -/
def Ren.put (r : Ren) (b : Nat) (p : Place) : Ren := fun i => if i = b then some (some p) else r i
theorem Ren.put_ext {r : Ren} {b : Nat} (h : r b = none) (p : Place) : Ext r (r.put b p) := by
  intro i
  by_cases hi : i = b
  · subst hi; exact Or.inl h
  · right; left; simp [Ren.put, hi]

theorem get_push {w : World} {o : Obj} {j : Nat} (h : j < w.heap.size) : (w.heap.push o)[j]? = w.heap[j]? := by
  rw [Array.getElem?_push, if_neg (by omega)]

theorem MemRel.push {w0 w : World} {keep : Keep} {r : Ren} {mem : Mem} (h : MemRel w0 keep r mem w) {b : Nat} (hb : mem[b]? = some .no) {k : Blk} {p : Place} {o : Obj} (hp : p.blk = w.heap.size) (ho : p.own = true) (hk : k ≠ .no)
    (hrel : BlkRel { w with heap := w.heap.push o } (r.put b p) p k) : MemRel w0 keep (r.put b p) (mem.set b k) { w with heap := w.heap.push o } := by
  have hlt : b < mem.length := (List.getElem?_eq_some_iff.1 hb).1
  have hrb := h.none b (Or.inr hb)
  have hl : ∀ (c : Nat) q, r c = some (some q) → q.blk < w.heap.size := fun c q hc => by
    obtain ⟨k, _, hk⟩ := h.blk c q hc
    exact hk.lt
  have hkl : ¬ keep w.heap.size := fun hk => by have := h.klt _ hk; have := h.size; omega
  refine ⟨h.os, h.tape, h.output, h.drawn, ?_, h.klt, ?_, ?_, ?_, ?_, ?_, ?_, ?_, ?_, ?_⟩
  · simp only [Array.size_push]; have := h.size; omega
  · intro j hj
    have := h.klt j hj
    have := h.size
    simp only
    rw [get_push (by omega)]
    exact h.kept j hj
  · intro c hc
    by_cases hcb : c = b
    · subst hcb
      rw [List.getElem?_set_self hlt] at hc
      rcases hc with hc | hc
      · cases hc
      · simp only [Option.some.injEq] at hc; exact absurd hc hk
    · rw [List.getElem?_set_ne (fun e => hcb e.symm)] at hc
      simp only [Ren.put, hcb, if_false]
      exact h.none c hc
  · intro c hc
    by_cases hcb : c = b
    · subst hcb
      simp [Ren.put] at hc
    · simp only [Ren.put, hcb, if_false] at hc
      rw [List.getElem?_set_ne (fun e => hcb e.symm)]
      exact h.dead c hc
  · intro c q hc
    by_cases hcb : c = b
    · subst hcb
      simp only [Ren.put, if_true, Option.some.injEq] at hc
      subst hc
      exact ⟨k, by rw [List.getElem?_set_self hlt], hrel⟩
    · simp only [Ren.put, hcb, if_false] at hc
      obtain ⟨k', h1, h2⟩ := h.blk c q hc
      refine ⟨k', by rw [List.getElem?_set_ne (fun e => hcb e.symm)]; exact h1, h2.mono ?_ (Ren.put_ext hrb p)⟩
      simp only
      rw [get_push h2.lt]
  · intro c q hc hq
    by_cases hcb : c = b
    · subst hcb
      simp only [Ren.put, if_true, Option.some.injEq] at hc
      subst hc
      rw [hp]; exact hkl
    · simp only [Ren.put, hcb, if_false] at hc
      exact h.own c q hc hq
  · intro c q hc hq hz
    by_cases hcb : c = b
    · subst hcb
      simp only [Ren.put, if_true, Option.some.injEq] at hc
      subst hc
      rw [ho] at hq; cases hq
    · simp only [Ren.put, hcb, if_false] at hc
      exact h.read c q hc hq hz
  · intro c q hc hq hz
    by_cases hcb : c = b
    · subst hcb
      simp only [Ren.put, if_true, Option.some.injEq] at hc
      subst hc
      rw [ho] at hq; cases hq
    · simp only [Ren.put, hcb, if_false] at hc
      exact h.vw c q hc hq hz
  · intro c d q s hc hd hq hz hs he
    by_cases hcb : c = b
    · subst hcb
      simp only [Ren.put, if_true, Option.some.injEq] at hc
      subst hc
      rw [ho] at hq; cases hq
    · simp only [Ren.put, hcb, if_false] at hc
      by_cases hdb : d = b
      · subst hdb
        simp only [Ren.put, if_true, Option.some.injEq] at hd
        subst hd
        have := hl c q hc
        omega
      · simp only [Ren.put, hdb, if_false] at hd
        rw [List.getElem?_set_ne (fun e => hdb e.symm)]
        exact h.sep c d q s hc hd hq hz hs he
  · intro c d q s hc hd hq hs hqs
    by_cases hcb : c = b <;> by_cases hdb : d = b
    · omega
    · simp only [Ren.put, hcb, hdb, if_true, if_false, Option.some.injEq] at hc hd
      subst hc
      have := hl d s hd
      omega
    · simp only [Ren.put, hcb, hdb, if_true, if_false, Option.some.injEq] at hc hd
      subst hd
      have := hl c q hc
      omega
    · simp only [Ren.put, hcb, hdb, if_false] at hc hd
      exact h.inj c d q s hc hd hq hs hqs

/-- A world that differs at one block. -/
structure Only (b : Nat) (w w' : World) : Prop where
  oth : ∀ k, k ≠ b → w'.heap[k]? = w.heap[k]?
  size : w'.heap.size = w.heap.size
  os : w'.os = w.os
  tape : w'.tape = w.tape
  output : w'.output = w.output
  drawn : w'.drawn = w.drawn

theorem MemRel.turn {w0 w w' : World} {keep : Keep} {r : Ren} {mem : Mem} (h : MemRel w0 keep r mem w) {b : Nat} {p : Place} {k : Blk} (hr : r b = some (some p)) (ho : p.own = true) (hng : ¬ isGrow mem[b]?) (hw : Only p.blk w w') (hk : BlkRel w' r p k) : MemRel w0 keep r (mem.set b k) w' := by
  obtain ⟨k0, hb, _⟩ := h.blk b p hr
  have hlt : b < mem.length := (List.getElem?_eq_some_iff.1 hb).1
  have hne : ∀ c q, r c = some (some q) → c ≠ b → q.blk ≠ p.blk := fun c q hc hcb e => by
    cases hq : q.own with
    | true => exact hcb (h.inj c b q p hc hr hq ho e)
    | false =>
      by_cases hz : q.room = 0
      · have k1 := h.read c q hc hq hz
        rw [e] at k1
        exact h.own b p hr ho (keep.sub _ k1)
      · exact hng (h.sep c b q p hc hr hq hz ho e.symm).1
  refine ⟨hw.os.trans h.os, hw.tape.trans h.tape, hw.output.trans h.output, by rw [hw.drawn]; exact h.drawn, by rw [hw.size]; exact h.size, h.klt, ?_, ?_, ?_, ?_, h.own, h.read, h.vw, fun c d q s hc hd hq hz hs he => ?_, h.inj⟩
  · intro j hj
    rw [hw.oth j (fun e => by subst e; exact h.own b p hr ho hj)]
    exact h.kept j hj
  · intro c hc
    by_cases hcb : c = b
    · subst hcb
      rw [List.getElem?_set_self hlt] at hc
      rcases hc with hc | hc
      · cases hc
      · simp only [Option.some.injEq] at hc
        subst hc
        exact hk.elim
    · rw [List.getElem?_set_ne (fun e => hcb e.symm)] at hc
      exact h.none c hc
  · intro c hc
    by_cases hcb : c = b
    · subst hcb
      rw [hr] at hc
      simp at hc
    · rw [List.getElem?_set_ne (fun e => hcb e.symm)]
      exact h.dead c hc
  · intro c q hc
    by_cases hcb : c = b
    · subst hcb
      rw [hr] at hc
      simp only [Option.some.injEq] at hc
      subst hc
      exact ⟨k, by rw [List.getElem?_set_self hlt], hk⟩
    · obtain ⟨k', h1, h2⟩ := h.blk c q hc
      exact ⟨k', by rw [List.getElem?_set_ne (fun e => hcb e.symm)]; exact h1, h2.mono (hw.oth _ (hne c q hc hcb)) (Ext.refl r)⟩
  · by_cases hdb : d = b
    · subst hdb
      rw [hr] at hd
      simp only [Option.some.injEq] at hd
      subst hd
      exact absurd (h.sep c d q p hc hr hq hz hs he).1 hng
    · rw [List.getElem?_set_ne (fun e => hdb e.symm)]
      exact h.sep c d q s hc hd hq hz hs he

theorem MemRel.later {w0 w w' : World} {keep : Keep} {r : Ren} {mem : Mem} (h : MemRel w0 keep r mem w) (hb : Below w.heap.size w w') (hd : w.drawn ≤ w'.drawn) : MemRel w0 keep r mem w' := by
  refine ⟨hb.os.trans h.os, hb.tape.trans h.tape, hb.output.trans h.output, Nat.le_trans h.drawn hd, Nat.le_trans h.size hb.size, h.klt, fun j hj => ?_, h.none, h.dead, fun b p hp => ?_, h.own, h.read, h.vw, h.sep, h.inj⟩
  · rw [hb.block j (by have := h.klt j hj; have := h.size; omega)]; exact h.kept j hj
  · obtain ⟨k, h1, h2⟩ := h.blk b p hp
    exact ⟨k, h1, h2.mono (hb.block _ h2.lt) (Ext.refl r)⟩

theorem room_get {m : Mem} {n b : Nat} {k : Blk} (h : (m ++ List.replicate n .no)[b]? = some k) (hk : k ≠ .no) : m[b]? = some k := by
  rw [List.getElem?_append] at h
  split at h
  · exact h
  · rw [List.getElem?_replicate] at h
    split at h
    · simp only [Option.some.injEq] at h; exact absurd h.symm hk
    · cases h
theorem MemRel.room {w0 w : World} {keep : Keep} {r : Ren} {mem : Mem} (h : MemRel w0 keep r mem w) (n : Nat) : MemRel w0 keep r (mem ++ List.replicate n .no) w := by
  refine ⟨h.os, h.tape, h.output, h.drawn, h.size, h.klt, h.kept, fun b hb => ?_, fun b hb => ?_, fun b p hp => ?_, h.own, h.read, h.vw, fun b c p q hb hc hp hz hq he => ?_, h.inj⟩
  · by_cases hlt : b < mem.length
    · rw [List.getElem?_append_left hlt] at hb; exact h.none b hb
    · exact h.none b (Or.inl (List.getElem?_eq_none (by omega)))
  · have h1 := h.dead b hb
    rw [List.getElem?_append_left (List.getElem?_eq_some_iff.1 h1).1]; exact h1
  · obtain ⟨k, h1, h2⟩ := h.blk b p hp
    exact ⟨k, by rw [List.getElem?_append_left (List.getElem?_eq_some_iff.1 h1).1]; exact h1, h2⟩
  · obtain ⟨k, h1, _⟩ := h.blk c q hc
    rw [List.getElem?_append_left (List.getElem?_eq_some_iff.1 h1).1]
    exact h.sep b c p q hb hc hp hz hq he

/-! ## Blocks that are given away -/
def Ren.kill (r : Ren) (b : Nat) : Ren := fun i => if i = b then some none else r i
theorem Ren.kill_ext {r : Ren} {b : Nat} {p : Option Place} (h : r b = some p) : Ext r (r.kill b) := by
  intro i
  by_cases hi : i = b
  · subst hi; right; right; left; exact ⟨⟨p, h⟩, by simp [Ren.kill]⟩
  · right; left; simp [Ren.kill, hi]
/-- A world in which something was drawn is the same memory. -/
theorem MemRel.same {w0 w w' : World} {keep : Keep} {r : Ren} {mem : Mem} (h : MemRel w0 keep r mem w) (ho : w'.os = w.os) (ht : w'.tape = w.tape) (hp : w'.output = w.output) (hd : w.drawn ≤ w'.drawn) (hh : w'.heap = w.heap) : MemRel w0 keep r mem w' := by
  refine ⟨ho.trans h.os, ht.trans h.tape, hp.trans h.output, Nat.le_trans h.drawn hd, by rw [hh]; exact h.size, h.klt, fun j hj => by rw [hh]; exact h.kept j hj, h.none, h.dead, fun b p hb => ?_, h.own, h.read, h.vw, h.sep, h.inj⟩
  obtain ⟨k, k1, k2⟩ := h.blk b p hb
  exact ⟨k, k1, k2.mono (by rw [hh]) (Ext.refl r)⟩
theorem MemRel.killed {w0 w : World} {keep : Keep} {r : Ren} {mem : Mem} (h : MemRel w0 keep r mem w) {b : Nat} {p : Place} (hr : r b = some (some p)) : MemRel w0 keep (r.kill b) (mem.set b .gone) w := by
  obtain ⟨k0, hb, _⟩ := h.blk b p hr
  have hlt : b < mem.length := (List.getElem?_eq_some_iff.1 hb).1
  have hne : ∀ {c : Nat} {q : Place}, (r.kill b) c = some (some q) → c ≠ b ∧ r c = some (some q) := fun {c q} hc => by
    unfold Ren.kill at hc
    split at hc
    · simp at hc
    · rename_i hcb; exact ⟨hcb, hc⟩
  refine ⟨h.os, h.tape, h.output, h.drawn, h.size, h.klt, h.kept, ?_, ?_, ?_, ?_, ?_, ?_, ?_, ?_⟩
  · intro c hc
    by_cases hcb : c = b
    · subst hcb
      rw [List.getElem?_set_self hlt] at hc
      rcases hc with hc | hc <;> cases hc
    · rw [List.getElem?_set_ne (fun e => hcb e.symm)] at hc
      simp only [Ren.kill, hcb, if_false]
      exact h.none c hc
  · intro c hc
    by_cases hcb : c = b
    · subst hcb; rw [List.getElem?_set_self hlt]
    · simp only [Ren.kill, hcb, if_false] at hc
      rw [List.getElem?_set_ne (fun e => hcb e.symm)]
      exact h.dead c hc
  · intro c q hc
    obtain ⟨hcb, hc⟩ := hne hc
    obtain ⟨k', h1, h2⟩ := h.blk c q hc
    exact ⟨k', by rw [List.getElem?_set_ne (fun e => hcb e.symm)]; exact h1, h2.mono rfl (Ren.kill_ext hr)⟩
  · intro c q hc hq
    exact h.own c q (hne hc).2 hq
  · intro c q hc hq
    exact h.read c q (hne hc).2 hq
  · intro c q hc hq
    exact h.vw c q (hne hc).2 hq
  · intro c d q s hc hd hq hz hs he
    rw [List.getElem?_set_ne (fun e => (hne hd).1 e.symm)]
    exact h.sep c d q s (hne hc).2 (hne hd).2 hq hz hs he
  · intro c d q s hc hd
    exact h.inj c d q s (hne hc).2 (hne hd).2
theorem set_snoc (m : Mem) (k k' : Blk) : (m ++ [k']).set m.length k = m ++ [k] := by simp
/-- A block that is made behind all others. -/
theorem MemRel.snoc {w0 w : World} {keep : Keep} {r : Ren} {mem : Mem} (h : MemRel w0 keep r mem w) {k : Blk} {p : Place} {o : Obj} (hp : p.blk = w.heap.size) (ho : p.own = true) (hk : k ≠ .no)
    (hrel : BlkRel { w with heap := w.heap.push o } (r.put mem.length p) p k) : MemRel w0 keep (r.put mem.length p) (mem ++ [k]) { w with heap := w.heap.push o } := by
  have h1 := h.room 1
  have : mem ++ [k] = (mem ++ List.replicate 1 Blk.no).set mem.length k := (set_snoc mem k Blk.no).symm
  rw [this]
  exact h1.push (b := mem.length) (by simp) hp ho hk hrel
/-- A block that is no longer written. -/
def Ren.asV (r : Ren) (b : Nat) (p : Place) : Ren := fun i => if i = b then some (some p.asView) else r i
theorem Ren.asV_ext {r : Ren} {b : Nat} {p : Place} (h : r b = some (some p)) : Ext r (r.asV b p) := by
  intro i
  by_cases hi : i = b
  · subst hi; right; right; right; exact ⟨p, h, by simp [Ren.asV]⟩
  · right; left; simp [Ren.asV, hi]
theorem MemRel.viewed {w0 w : World} {keep : Keep} {r : Ren} {mem : Mem} (h : MemRel w0 keep r mem w) {b : Nat} {p : Place} {k : Blk} (hr : r b = some (some p)) (ho : p.own = true) (hb : mem[b]? = some k) {pl : Bool} {e n : Nat} {row : Nat → List Value} (hk : k = .rows true pl e n row ∨ k = .grow pl e n row) :
    MemRel w0 keep (r.asV b p) (mem.set b (.view pl e n row)) w := by
  have hlt : b < mem.length := (List.getElem?_eq_some_iff.1 hb).1
  have hkr := h.at hr hb
  have hext := Ren.asV_ext hr
  have hview : BlkRel w (r.asV b p) p.asView (.view pl e n row) := by
    rcases hk with rfl | rfl
    · obtain ⟨h1, h2, h0, hp, cs, T, fz, h6, h3, h4, h5⟩ := hkr
      exact ⟨rfl, h2, h0, hp, cs, T, fz, h3, rfl, fun i hi => ⟨(h5 i hi).1, (h5 i hi).2.ext hext⟩⟩
    · obtain ⟨h1, h2, h0, hp, cs, T, fz, h3, h4, h5⟩ := hkr
      exact ⟨rfl, h2, h0, hp, cs, T, fz, h3, rfl, fun i hi => ⟨(h5 i hi).1, (h5 i hi).2.ext hext⟩⟩
  have hc3 : ∀ {c : Nat} {q : Place}, (r.asV b p) c = some (some q) → (c = b ∧ q = p.asView) ∨ (c ≠ b ∧ r c = some (some q)) := fun {c q} hc => by
    unfold Ren.asV at hc
    split at hc
    · rename_i hcb; simp only [Option.some.injEq] at hc; exact Or.inl ⟨hcb, hc.symm⟩
    · rename_i hcb; exact Or.inr ⟨hcb, hc⟩
  refine ⟨h.os, h.tape, h.output, h.drawn, h.size, h.klt, h.kept, ?_, ?_, ?_, ?_, ?_, ?_, ?_, ?_⟩
  · intro c hc
    by_cases hcb : c = b
    · subst hcb
      rw [List.getElem?_set_self hlt] at hc
      rcases hc with hc | hc <;> cases hc
    · rw [List.getElem?_set_ne (fun e => hcb e.symm)] at hc
      simp only [Ren.asV, hcb, if_false]
      exact h.none c hc
  · intro c hc
    by_cases hcb : c = b
    · subst hcb; simp [Ren.asV] at hc
    · simp only [Ren.asV, hcb, if_false] at hc
      rw [List.getElem?_set_ne (fun e => hcb e.symm)]
      exact h.dead c hc
  · intro c q hc
    rcases hc3 hc with ⟨rfl, rfl⟩ | ⟨hcb, hc⟩
    · exact ⟨_, by rw [List.getElem?_set_self hlt], hview⟩
    · obtain ⟨k', h1, h2⟩ := h.blk c q hc
      exact ⟨k', by rw [List.getElem?_set_ne (fun e => hcb e.symm)]; exact h1, h2.mono rfl hext⟩
  · intro c q hc hq
    rcases hc3 hc with ⟨rfl, rfl⟩ | ⟨hcb, hc⟩
    · cases hq
    · exact h.own c q hc hq
  · intro c q hc hq hz
    rcases hc3 hc with ⟨rfl, rfl⟩ | ⟨hcb, hc⟩
    · cases hz
    · exact h.read c q hc hq hz
  · intro c q hc hq hz
    rcases hc3 hc with ⟨rfl, rfl⟩ | ⟨hcb, hc⟩
    · exact h.own c p hr ho
    · exact h.vw c q hc hq hz
  · intro c d q s hc hd hq hz hs he
    rcases hc3 hd with ⟨rfl, rfl⟩ | ⟨hdb, hd2⟩
    · cases hs
    · rw [List.getElem?_set_ne (fun e => hdb e.symm)]
      rcases hc3 hc with ⟨rfl, rfl⟩ | ⟨hcb, hc2⟩
      · exact absurd (h.inj d c s p hd2 hr hs ho he) hdb
      · exact h.sep c d q s hc2 hd2 hq hz hs he
  · intro c d q s hc hd hq hs he
    rcases hc3 hc with ⟨rfl, rfl⟩ | ⟨hcb, hc⟩
    · cases hq
    · rcases hc3 hd with ⟨rfl, rfl⟩ | ⟨hdb, hd⟩
      · cases hs
      · exact h.inj c d q s hc hd hq hs he
/-- A block that lies where none lies that is written. -/
theorem MemRel.adopt {w0 w w' : World} {keep : Keep} {r : Ren} {mem : Mem} (h : MemRel w0 keep r mem w) {q : Place} {k : Blk} (hfree : ∀ c s, r c = some (some s) → s.own = true → s.blk ≠ q.blk) (hnk : ¬ keep q.blk) (hqo : q.own = true) (hw : Only q.blk w w') (hk : k ≠ .no)
    (hsh : ∀ c s, r c = some (some s) → s.own = false → s.room ≠ 0 → s.blk = q.blk → Shares (some k) s q ∧ ∀ k0, BlkRel w r s k0 → BlkRel w' r s k0) (hrel : BlkRel w' (r.put mem.length q) q k) : MemRel w0 keep (r.put mem.length q) (mem ++ [k]) w' := by
  have hnone : r mem.length = Option.none := h.none mem.length (Or.inl (by simp))
  have hext := Ren.put_ext hnone q
  have hself : (mem ++ [k])[mem.length]? = some k := by simp
  have hget : ∀ {c : Nat}, c ≠ mem.length → (mem ++ [k])[c]? = mem[c]? := fun {c} hc => by
    rw [List.getElem?_append]
    split
    · rfl
    · rw [List.getElem?_eq_none (by simp; omega), List.getElem?_eq_none (by omega)]
  have hc3 : ∀ {c : Nat} {s : Place}, (r.put mem.length q) c = some (some s) → (c = mem.length ∧ s = q) ∨ (c ≠ mem.length ∧ r c = some (some s)) := fun {c s} hc => by
    unfold Ren.put at hc
    split at hc
    · rename_i hcb; simp only [Option.some.injEq] at hc; exact Or.inl ⟨hcb, hc.symm⟩
    · rename_i hcb; exact Or.inr ⟨hcb, hc⟩
  refine ⟨hw.os.trans h.os, hw.tape.trans h.tape, hw.output.trans h.output, by rw [hw.drawn]; exact h.drawn, by rw [hw.size]; exact h.size, h.klt, ?_, ?_, ?_, ?_, ?_, ?_, ?_, ?_, ?_⟩
  · intro j hj
    rw [hw.oth j (fun e => by subst e; exact hnk hj)]
    exact h.kept j hj
  · intro c hc
    by_cases hcm : c = mem.length
    · subst hcm
      rw [hself] at hc
      rcases hc with hc | hc
      · cases hc
      · simp only [Option.some.injEq] at hc; exact absurd hc hk
    · rw [hget hcm] at hc
      simp only [Ren.put, hcm, if_false]
      exact h.none c hc
  · intro c hc
    by_cases hcm : c = mem.length
    · subst hcm; simp [Ren.put] at hc
    · simp only [Ren.put, hcm, if_false] at hc
      rw [hget hcm]; exact h.dead c hc
  · intro c s hc
    rcases hc3 hc with ⟨rfl, rfl⟩ | ⟨hcm, hc⟩
    · exact ⟨k, hself, hrel⟩
    · obtain ⟨k', h1, h2⟩ := h.blk c s hc
      refine ⟨k', by rw [hget hcm]; exact h1, ?_⟩
      by_cases hsb : s.blk = q.blk
      · cases hso : s.own with
        | true => exact absurd hsb (hfree c s hc hso)
        | false =>
          by_cases hz : s.room = 0
          · have := h.read c s hc hso hz
            rw [hsb] at this
            exact absurd (keep.sub _ this) hnk
          · exact ((hsh c s hc hso hz hsb).2 k' h2).mono rfl hext
      · exact h2.mono (hw.oth _ hsb) hext
  · intro c s hc hs
    rcases hc3 hc with ⟨rfl, rfl⟩ | ⟨hcm, hc⟩
    · exact hnk
    · exact h.own c s hc hs
  · intro c s hc hs hz
    rcases hc3 hc with ⟨rfl, rfl⟩ | ⟨hcm, hc⟩
    · rw [hqo] at hs; cases hs
    · exact h.read c s hc hs hz
  · intro c s hc hs hz
    rcases hc3 hc with ⟨rfl, rfl⟩ | ⟨hcm, hc⟩
    · rw [hqo] at hs; cases hs
    · exact h.vw c s hc hs hz
  · intro c d s t hc hd hs hz ht he
    rcases hc3 hc with ⟨rfl, rfl⟩ | ⟨hcm, hc⟩
    · rw [hqo] at hs; cases hs
    · rcases hc3 hd with ⟨rfl, rfl⟩ | ⟨hdm, hd⟩
      · rw [hself]; exact (hsh c s ‹r c = some (some s)› hs hz he.symm).1
      · rw [hget hdm]; exact h.sep c d s t ‹r c = some (some s)› hd hs hz ht he
  · intro c d s t hc hd hs ht hst
    rcases hc3 hc with ⟨rfl, rfl⟩ | ⟨hcm, hc⟩
    · rcases hc3 hd with ⟨rfl, rfl⟩ | ⟨hdm, hd⟩
      · rfl
      · exact absurd hst.symm (hfree d t hd ht)
    · rcases hc3 hd with ⟨rfl, rfl⟩ | ⟨hdm, hd⟩
      · exact absurd hst (hfree c s ‹r c = some (some s)› hs)
      · exact h.inj c d s t ‹r c = some (some s)› hd hs ht hst
/-- Where nothing is looked at as it was, what grew may be written. -/
def thawB : Blk → Blk
  | .grow pl e n row => .rows true pl e n row
  | b => b
def noViewB : Blk → Bool
  | .view .. => false
  | _ => true
def allB (p : Blk → Bool) : Mem → Bool
  | [] => true
  | x :: xs => match p x with
    | true => allB p xs
    | false => false
def thaw : Mem → Mem
  | [] => []
  | b :: m => thawB b :: thaw m
theorem allB_iff {p : Blk → Bool} : ∀ {l : Mem}, allB p l = true ↔ ∀ x ∈ l, p x = true
  | [] => by simp [allB]
  | x :: xs => by
    simp only [allB, List.forall_mem_cons]
    cases h : p x with
    | true => simp [allB_iff]
    | false => simp
theorem thaw_get : ∀ (m : Mem) (i : Nat), (thaw m)[i]? = (m[i]?).map thawB
  | [], i => by simp [thaw]
  | b :: m, 0 => by simp [thaw]
  | b :: m, i + 1 => by simp only [thaw, List.getElem?_cons_succ]; exact thaw_get m i
theorem BlkRel.thaw {w : World} {r : Ren} {p : Place} {k : Blk} (h : BlkRel w r p k) : BlkRel w r p (thawB k) := by
  cases k with
  | grow pl e n row =>
    obtain ⟨h1, h2, h0, hp, cs, T, fz, h3, h4, h5⟩ := h
    exact ⟨h1, h2, h0, hp, cs, T, fz, (fun h => by cases h), h3, fun _ => h4, h5⟩
  | _ => exact h
theorem BlkRel.isView {w : World} {r : Ren} {p : Place} {k : Blk} (h : BlkRel w r p k) (h1 : p.own = false) (h2 : p.room ≠ 0) : noViewB k = false := by
  cases k with
  | cells own esz c =>
    obtain ⟨g1, g2, cs, T, fz, h6, _⟩ := h
    exact absurd (h6 (g1.symm.trans h1)) h2
  | rows own pl esz n row =>
    obtain ⟨g1, g2, g0, hp, cs, T, fz, h6, _⟩ := h
    exact absurd (h6 (g1.symm.trans h1)) h2
  | grow pl esz n row => rw [h.1] at h1; cases h1
  | view pl esz n row => rfl
  | iter s pos => rw [h.1] at h1; cases h1
  | mp u n es => rw [h.1] at h1; cases h1
  | no => exact h.elim
  | gone => exact h.elim
theorem MemRel.thawed {w0 w : World} {keep : Keep} {r : Ren} {mem : Mem} (h : MemRel w0 keep r mem w) (hv : allB noViewB mem = true) : MemRel w0 keep r (thaw mem) w := by
  refine ⟨h.os, h.tape, h.output, h.drawn, h.size, h.klt, h.kept, fun b hb => ?_, fun b hb => ?_, fun b p hb => ?_, h.own, h.read, h.vw, fun b c p q hb hc hp hz hq he => ?_, h.inj⟩
  · rw [thaw_get] at hb
    cases hm : mem[b]? with
    | none => exact h.none b (Or.inl hm)
    | some k =>
      rw [hm] at hb
      rcases hb with hb | hb
      · cases hb
      · simp only [Option.map_some, Option.some.injEq] at hb
        refine h.none b (Or.inr ?_)
        rw [hm]
        cases k <;> simp [thawB] at hb ⊢
  · rw [thaw_get, h.dead b hb]; rfl
  · obtain ⟨k, h1, h2⟩ := h.blk b p hb
    exact ⟨thawB k, by rw [thaw_get, h1]; rfl, h2.thaw⟩
  · exfalso
    obtain ⟨k, h1, h2⟩ := h.blk b p hb
    have := h2.isView hp hz
    rw [allB_iff.1 hv k (List.mem_of_getElem? h1)] at this
    cases this
/-! ## Nothing is looked at any more as it was -/
def killVB : Blk → Blk
  | .view .. => .gone
  | b => b
def killV : Mem → Mem
  | [] => []
  | b :: m => killVB b :: killV m
theorem killV_get : ∀ (m : Mem) (i : Nat), (killV m)[i]? = (m[i]?).map killVB
  | [], i => by simp [killV]
  | b :: m, 0 => by simp [killV]
  | b :: m, i + 1 => by simp only [killV, List.getElem?_cons_succ]; exact killV_get m i
theorem killV_none (m : Mem) : allB noViewB (killV m) = true := by
  induction m with
  | nil => rfl
  | cons b m ih =>
    simp only [killV, allB]
    rw [show noViewB (killVB b) = true by cases b <;> rfl]
    exact ih
open Classical in
noncomputable def Ren.noV (r : Ren) : Ren := fun b => if ∃ p, r b = some (some p) ∧ p.own = false ∧ p.room ≠ 0 then some none else r b
theorem Ren.noV_ext (r : Ren) : Ext r r.noV := by
  intro b
  unfold Ren.noV
  split
  · rename_i h; obtain ⟨p, h1, _⟩ := h; exact Or.inr (Or.inr (Or.inl ⟨⟨_, h1⟩, rfl⟩))
  · exact Or.inr (Or.inl rfl)
theorem MemRel.unview {w0 w : World} {keep : Keep} {r : Ren} {mem : Mem} (h : MemRel w0 keep r mem w) : MemRel w0 keep r.noV (killV mem) w := by
  have hc : ∀ {b : Nat} {p : Place}, r.noV b = some (some p) → r b = some (some p) ∧ ¬ (p.own = false ∧ p.room ≠ 0) := fun {b p} hb => by
    unfold Ren.noV at hb
    split at hb
    · simp at hb
    · rename_i hn; exact ⟨hb, fun hp => hn ⟨p, hb, hp⟩⟩
  have hk : ∀ {b : Nat} {p : Place} {k : Blk}, r b = some (some p) → ¬ (p.own = false ∧ p.room ≠ 0) → mem[b]? = some k → killVB k = k := fun {b p k} hb hn hm => by
    cases k with
    | view pl e n row =>
      have := h.at hb hm
      exact absurd ⟨this.1, by obtain ⟨_, _, _, _, _, _, _, _, h1, _⟩ := this; omega⟩ hn
    | _ => rfl
  refine ⟨h.os, h.tape, h.output, h.drawn, h.size, h.klt, h.kept, fun b hb => ?_, fun b hb => ?_, fun b p hb => ?_, fun b p hb => ?_, fun b p hb => ?_, fun b p hb h1 h2 => ?_, fun b c p q hb hc' h1 h2 => ?_, fun b c p q hb hc' => ?_⟩
  · rw [killV_get] at hb
    have hn : r b = Option.none := by
      cases hm : mem[b]? with
      | none => exact h.none b (Or.inl hm)
      | some k =>
        rw [hm] at hb
        rcases hb with hb | hb
        · cases hb
        · simp only [Option.map_some, Option.some.injEq] at hb
          refine h.none b (Or.inr ?_)
          rw [hm]
          cases k <;> simp [killVB] at hb ⊢
    unfold Ren.noV
    split
    · rename_i hp; obtain ⟨p, h1, _⟩ := hp; rw [hn] at h1; cases h1
    · exact hn
  · rw [killV_get]
    unfold Ren.noV at hb
    split at hb
    · rename_i hp
      obtain ⟨p, h1, h2, h3⟩ := hp
      obtain ⟨k, h4, h5⟩ := h.blk b p h1
      have := h5.isView h2 h3
      rw [h4]
      cases k with
      | view pl e n row => rfl
      | _ => simp [noViewB] at this
    · rw [h.dead b hb]; rfl
  · obtain ⟨h1, h2⟩ := hc hb
    obtain ⟨k, h3, h4⟩ := h.blk b p h1
    refine ⟨k, by rw [killV_get, h3]; simp only [Option.map_some, hk h1 h2 h3], h4.mono rfl r.noV_ext⟩
  · exact h.own b p (hc hb).1
  · exact h.read b p (hc hb).1
  · exact absurd ⟨h1, h2⟩ (hc hb).2
  · exact absurd ⟨h1, h2⟩ (hc hb).2
  · exact h.inj b c p q (hc hb).1 (hc hc').1
def RelAt (w0 : World) (keep : Keep) (r : Ren) (st : St) (a : Act) (w : World) : Prop := a.defers = [] ∧ RL (R r) st.tmps a.tmps.toList ∧ MemRel w0 keep r st.mem w
def Rel (w0 : World) (keep : Keep) (r0 : Ren) (st : St) (a : Act) (w : World) : Prop := ∃ r, Ext r0 r ∧ RelAt w0 keep r st a w

theorem R_undef (r : Ren) : R r undef undef := ⟨#[], rfl, trivial⟩
theorem eval_R {w0 : World} {keep : Keep} {r : Ren} {st : St} {a : Act} {w : World} (h : RelAt w0 keep r st a w) (x : Operand) : R r (ev st.tmps x) (a.eval x) := by
  cases x with
  | tmp t =>
    simp only [ev, Act.eval]
    cases ht : st.tmps[t]? with
    | none =>
      have hl := h.2.1.length
      have hs : a.tmps.size ≤ t := by
        have := List.getElem?_eq_none_iff.1 ht
        rw [← Array.length_toList]; omega
      have : a.tmps.getD t undef = undef := by simp [Array.getD, Nat.not_lt.2 hs]
      rw [this]
      exact R_undef r
    | some v =>
      obtain ⟨v', h1, h2⟩ := h.2.1.get t v ht
      have hlt : t < a.tmps.size := by rw [← Array.length_toList]; exact (List.getElem?_eq_some_iff.1 h1).1
      have : a.tmps.getD t undef = v' := by
        simp only [Array.getD, dif_pos hlt]
        have e := List.getElem?_eq_some_iff.1 h1
        obtain ⟨e1, e2⟩ := e
        rw [← e2]; simp
      rw [this]
      exact h2
  | const v =>
    simp only [ev, Act.eval]
    cases hp : plain v with
    | true => exact (R_plain hp).2 rfl
    | false => exact R_unk r v
  | global g => exact R_unk r _
  | func f => exact rfl
theorem eval_plain {w0 : World} {keep : Keep} {r : Ren} {st : St} {a : Act} {w : World} (h : RelAt w0 keep r st a w) {x : Operand} (hx : okOpnd st.tmps x = true) : a.eval x = ev st.tmps x := (R_plain hx).1 (eval_R h x)
end Go.Proofs.Ytokdjjdmmahbiaa.Vx
