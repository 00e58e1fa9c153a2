/-
  Lists of whole numbers, or of rows of them, as arguments: what a reading says of their cells, and the memory that they are; any number of them. Nothing here is trusted.
-/
import Derived.Test.YtokdjjdmmahbiaaVyQ
import Derived.Test.YtokdjjdmmahbiaaRowT
import Derived.OpenShut
namespace Go.Proofs.Ytokdjjdmmahbiaa.Vx
open Go Go.RowKit

/-- The cells of a list's rows, in a world. -/
def RowsAt (W : World) (a : Addr) (e n : Nat) (row : Nat → List Value) : Prop := a.spot = none ∧ ∃ cs T fz, W.heap[a.block]? = some (.cells cs T fz) ∧ ∀ i, i < n → (row i).length = e ∧ allL plain0 (row i) = true ∧ ∀ (k : Nat) v, (row i)[k]? = some v → cs[a.off + i * e + k]? = some v
theorem RowsAt.congr {W : World} {a : Addr} {e n : Nat} {row row2 : Nat → List Value} (h : RowsAt W a e n row) (hr : ∀ i, i < n → row i = row2 i) : RowsAt W a e n row2 := by
  obtain ⟨h1, cs, T, fz, h2, h3⟩ := h
  exact ⟨h1, cs, T, fz, h2, fun i hi => by rw [← hr i hi]; exact h3 i hi⟩
def kRow (k : IntKind) (xs : List (List Int)) : Nat → List Value := fun i => intsK k ((xs[i]?).getD [])
theorem plain_intsK (k : IntKind) (l : List Int) : allL plain0 (intsK k l) = true := allL_iff.2 fun x hx => by
  obtain ⟨y, _, rfl⟩ := List.mem_map.1 hx
  rfl

section
variable {H : Type} {enc : TypeId × Value → H} {P : Program} {W : World} {base : Nat} {spare : Nat → Bool} {held : Bool}
theorem open_rows {t e : TypeId} {b0 z : Nat} {kd : IntKind} {v : Value} {d : DataW H} {ps : List MemPlace} (ht : P.underlying t = some (.slice e)) (hl : leafs P 9 e = some (List.replicate z (some kd))) (hc : P.cellsOf e = z) (hv : Value.okWide P W .any b0 t v)
    (h : DataW.Trod enc P W base spare held t v d ps) :
    v = .slice none 0 0 ∨ ∃ (a : Addr) (cap : Nat) (xs : List (List Int)) (es rs : List (DataW H)), v = .slice (some a) xs.length cap ∧ xs.length ≤ cap ∧ RowsAt W a z xs.length (kRow kd xs) ∧ d = .slice es rs ∧ es.length = xs.length ∧ ∀ x ∈ xs, x.length = z ∧ ∀ y ∈ x, (Lit.int kd y).wf = true := by
  obtain ⟨fuel, hf⟩ := h
  rcases DataW.trod_slice ht hf with ⟨h0, _⟩ | ⟨a, len, cap, elems, rest, n, _, hcs, hx, hb, hlc, hm, hlen, hel, _, _⟩
  · left
    cases v <;> simp [Value.cells] at h0
    · obtain ⟨rfl, rfl, rfl⟩ := h0; rfl
    · unfold Value.okWide at hv
      rw [ht] at hv
      simp only [Cell.okWide, ht, Cell.ok] at hv
  · right
    have hv' : v = .slice (some a) len cap := by
      cases v <;> simp [Value.cells] at hcs
      · obtain ⟨rfl, rfl, rfl⟩ := hcs; rfl
      · unfold Value.okWide at hv
        rw [ht] at hv
        simp only [Cell.okWide, ht, Cell.ok] at hv
    subst hv'
    have hhas : a.spot = none ∧ ∃ cs T fz, W.heap[a.block]? = some (.cells cs T fz) := by
      unfold Value.okWide at hv
      rw [ht] at hv
      simp only [Cell.okWide, ht, Cell.ok] at hv
      obtain ⟨_, _, _, hs, row, cells, hsh, _⟩ := hv
      refine ⟨hs, ?_⟩
      unfold World.shape? at hsh
      split at hsh
      · rename_i c el fz hh; exact ⟨c, el, fz, hh⟩
      · cases hsh
    obtain ⟨hs, cs, T, fz, hh⟩ := hhas
    have each : ∀ i, i < len → ∃ o : List Int, o.length = z ∧ (∀ y ∈ o, (Lit.int kd y).wf = true) ∧ ∀ (k : Nat) v, (intsK kd o)[k]? = some v → cs[a.off + i * z + k]? = some v := fun i hi => by
      have h1 := hel i hi
      rw [List.getElem?_eq_getElem (by omega), Option.bind_eq_some_iff] at h1
      obtain ⟨cc, h2, h3⟩ := h1
      obtain ⟨_, h4, h5⟩ := World.cells?_some h2
      rw [hc] at h4 h5
      obtain ⟨l, k1, k2, k3⟩ := leaves_ints z _ (leafs_read 9 e _ hl n _ _ h3)
      refine ⟨l, k1, k3, fun k v hk => ?_⟩
      rw [← k2] at hk
      have hk2 : k < z := by
        have := (List.getElem?_eq_some_iff.1 hk).1
        omega
      have h6 := h5 k hk2
      rw [hk] at h6
      unfold World.cell? at h6
      have hblk : ((a.add (i * z)).add k).block = a.block := by unfold Addr.add; split <;> split <;> rfl
      have hoff : ((a.add (i * z)).add k).off = a.off + i * z + k := by
        unfold Addr.add
        split <;> split <;> (try simp only) <;> omega
      have hspt : ((a.add (i * z)).add k).spot = none := by
        unfold Addr.add
        split <;> split <;> first | exact hs | rfl
      rw [hblk, hh] at h6
      simp only [hspt, hoff] at h6
      simpa using h6
    have build : ∀ m, m ≤ len → ∃ xs : List (List Int), xs.length = m ∧ (∀ x ∈ xs, x.length = z ∧ ∀ y ∈ x, (Lit.int kd y).wf = true) ∧ ∀ (i : Nat) o, xs[i]? = some o → ∀ (k : Nat) v, (intsK kd o)[k]? = some v → cs[a.off + i * z + k]? = some v := by
      intro m
      induction m with
      | zero => intro _; exact ⟨[], rfl, by simp, by simp⟩
      | succ m ih =>
        intro hm2
        obtain ⟨xs, hx1, hxw, hx2⟩ := ih (by omega)
        obtain ⟨o, ho1, ho2, ho⟩ := each m (by omega)
        refine ⟨xs ++ [o], by simp [hx1], fun x hx => ?_, fun i p hp => ?_⟩
        · rcases List.mem_append.1 hx with hx | hx
          · exact hxw x hx
          · simp only [List.mem_singleton] at hx
            subst hx
            exact ⟨ho1, ho2⟩
        by_cases hi : i < xs.length
        · rw [List.getElem?_append_left hi] at hp
          exact hx2 i p hp
        · rw [List.getElem?_append_right (by omega)] at hp
          have hi2 : i - xs.length = 0 := by
            have := (List.getElem?_eq_some_iff.1 hp).1
            simp at this; omega
          rw [hi2] at hp
          simp only [List.getElem?_cons_zero, Option.some.injEq] at hp
          subst hp
          have : i = m := by omega
          subst this
          exact ho
    obtain ⟨xs, hx1, hxw, hx2⟩ := build len (Nat.le_refl _)
    simp only [Prod.mk.injEq] at hx
    refine ⟨a, cap, xs, elems.map (·.1), rest.map (·.1), by rw [hx1], by omega, ⟨hs, cs, T, fz, hh, fun i hi => ?_⟩, hx.1, by simp [hlen, hx1], hxw⟩
    unfold kRow
    rw [List.getElem?_eq_getElem hi]
    refine ⟨?_, plain_intsK _ _, fun k v hk => hx2 i _ (List.getElem?_eq_getElem hi) k v hk⟩
    simp only [Option.getD_some, intsK, List.length_map]
    exact (hxw _ (List.getElem_mem hi)).1
end

/-! ## The memory that lists are, which are looked at alone -/
structure Lst where
  a : Addr
  e : Nat
  n : Nat
  row : Nat → List Value
def Lst.place (x : Lst) : Place := ⟨x.a.block, x.a.off, x.e, x.n, 0, false⟩
def Lst.blk (x : Lst) : Blk := .rows false true x.e x.n x.row
def lstRen (l : List Lst) : Ren := fun i => (l[i]?).map fun x => some x.place
theorem Lst.rel {W : World} {x : Lst} (h : RowsAt W x.a x.e x.n x.row) (r : Ren) : BlkRel W r x.place x.blk := by
  obtain ⟨_, cs, T, fz, hh, hx⟩ := h
  exact ⟨rfl, rfl, rfl, fun _ i hi => allL_nad0 (hx i hi).2.1, cs, T, fz, fun _ => rfl, hh, (fun h => by cases h), fun i hi => ⟨(hx i hi).1, fun k v hv => ⟨v, (hx i hi).2.2 k v hv, (R0_plain (allL_iff.1 (hx i hi).2.1 v (List.mem_of_getElem? hv))).2 rfl⟩⟩⟩
theorem lst_rel {W : World} {l : List Lst} (h : ∀ x ∈ l, RowsAt W x.a x.e x.n x.row) : MemRel W (keepAll W) (lstRen l) (l.map Lst.blk) W := by
  have key : ∀ {b : Nat} {p : Place}, lstRen l b = some (some p) → ∃ x, l[b]? = some x ∧ p = x.place ∧ BlkRel W (lstRen l) p x.blk := fun {b p} hp => by
    unfold lstRen at hp
    cases hx : l[b]? with
    | none => rw [hx] at hp; cases hp
    | some x =>
      rw [hx] at hp
      simp only [Option.map_some, Option.some.injEq] at hp
      exact ⟨x, rfl, hp.symm, hp ▸ Lst.rel (h x (List.mem_of_getElem? hx)) _⟩
  refine ⟨rfl, rfl, rfl, Nat.le_refl _, Nat.le_refl _, fun j hj => hj, fun j _ => rfl, fun b hb' => ?_, fun b hb' => ?_, fun b p hp => ?_, fun b p hp ho => ?_, fun b p hp _ _ => ?_, fun b p hp _ hz => ?_, fun b c p q hp _ _ hz => ?_, fun b c p q hp _ ho => ?_⟩
  · unfold lstRen
    cases hx : l[b]? with
    | none => rfl
    | some x => rw [List.getElem?_map, hx] at hb'; simp [Lst.blk] at hb'
  · unfold lstRen at hb'
    cases hx : l[b]? with
    | none => rw [hx] at hb'; cases hb'
    | some x => rw [hx] at hb'; cases hb'
  · obtain ⟨x, h1, rfl, h2⟩ := key hp
    exact ⟨_, by rw [List.getElem?_map, h1]; rfl, h2⟩
  · obtain ⟨x, _, rfl, _⟩ := key hp; cases ho
  · obtain ⟨x, _, rfl, h2⟩ := key hp; exact h2.lt
  · obtain ⟨x, _, rfl, _⟩ := key hp; exact absurd rfl hz
  · obtain ⟨x, _, rfl, _⟩ := key hp; exact absurd rfl hz
  · obtain ⟨x, _, rfl, _⟩ := key hp; cases ho
theorem lst_arg {l : List Lst} {k : Nat} {x : Lst} {cap : Nat} (hx : l[k]? = some x) (hs : x.a.spot = none) (hc : x.n ≤ cap) : R (lstRen l) (.slice (some ⟨k, 0, some 0⟩) x.n x.e) (.slice (some x.a) x.n cap) := by
  refine R_sl_mk hc (Or.inr ⟨x.place, by unfold lstRen; rw [hx]; rfl, ?_, hc, fun i hi => ?_, fun _ => rfl, fun _ => rfl, fun h => by cases h⟩)
  · obtain ⟨a, e, n, row⟩ := x
    obtain ⟨bk, off, spot⟩ := a
    simp only at hs
    subst hs
    simp [Place.addr, Lst.place]
  · simp only [Option.some.injEq] at hi; subst hi; simp [Lst.place]
/-- A law of lists, called. -/
theorem MemSem.callsG {P : Program} {f : FuncId} {W : World} {l : List Lst} {args args' : List Value} {m' : Mem} (h : MemSem P f args (l.map Lst.blk) (.bool true) m') (hl : ∀ x ∈ l, RowsAt W x.a x.e x.n x.row) (hm : RL (R (lstRen l)) args args') :
    Calls P f args'.toArray W fun e W' => e = .returned (.bool true) ∧ Below W.heap.size W W' := by
  refine (h.2 W _ _ args' W hm (lst_rel hl)).mono ?_
  rintro e w' ⟨v', r', rfl, h1, h2, h3⟩
  rw [(R_plain (v := .bool true) rfl).1 h1]
  exact ⟨rfl, ⟨h2.os, h2.tape, h2.output, h2.size, fun k hk => h2.kept k hk⟩⟩
end Go.Proofs.Ytokdjjdmmahbiaa.Vx
