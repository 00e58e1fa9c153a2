/-
  A list of indices as an argument: what a reading says of its cells, and the memory that it is. Nothing here is trusted.
-/
import Derived.Test.YtjpfnfckpgilgaaKal
import Derived.Test.YtjpfnfckpgilgaaKak
import Derived.Test.YtjpfnfckpgilgaaRows
import Derived.OpenShut
namespace Go.Proofs.Ytjpfnfckpgilgaa.Vx
open Go Go.RowKit

/-- The cells of a list of indices, in a world. -/
def VcsAt (W : World) (a : Addr) (xs : List V3) : Prop := a.spot = none ∧ ∃ cs T fz, W.heap[a.block]? = some (.cells cs T fz) ∧ ∀ (i : Nat) o, xs[i]? = some o → ∀ (k : Nat) v, o.cells[k]? = some v → cs[a.off + i * 3 + k]? = some v

section
variable {H : Type} {enc : TypeId × Value → H} {P : Program} {W : World} {base : Nat} {spare : Nat → Bool} {held : Bool}
theorem ints_v3x : ∀ {l : List Int}, l.length = 3 → ∃ o : V3, o.cells = intsK .i64 l
  | [a, b, c], _ => ⟨⟨a, b, c⟩, rfl⟩
theorem open_vcs {t e : TypeId} {b0 : Nat} {v : Value} {d : DataW H} {ps : List MemPlace} (ht : P.underlying t = some (.slice e)) (hl : leafs P 9 e = some (List.replicate 3 (some .i64))) (hc : P.cellsOf e = 3) (hv : Value.okWide P W .any b0 t v)
    (h : DataW.Trod enc P W base spare held t v d ps) :
    v = .slice none 0 0 ∨ ∃ (a : Addr) (cap : Nat) (xs : List V3) (es rs : List (DataW H)), v = .slice (some a) xs.length cap ∧ xs.length ≤ cap ∧ VcsAt W a xs ∧ d = .slice es rs ∧ es.length = xs.length := by
  obtain ⟨fuel, hf⟩ := h
  rcases DataW.trod_slice ht hf with ⟨h0, _⟩ | ⟨a, len, cap, elems, rest, n, _, hcs, hx, hb, hlc, hm, hlen, hel, _, _⟩
  · left
    cases v <;> simp [Value.cells] at h0
    · obtain ⟨rfl, rfl, rfl⟩ := h0; rfl
    · unfold Value.okWide at hv
      rw [ht] at hv
      simp only [Cell.okWide, ht, Cell.ok] at hv
  · right
    have hv' : v = .slice (some a) len cap := by
      cases v <;> simp [Value.cells] at hcs
      · obtain ⟨rfl, rfl, rfl⟩ := hcs; rfl
      · unfold Value.okWide at hv
        rw [ht] at hv
        simp only [Cell.okWide, ht, Cell.ok] at hv
    subst hv'
    have hhas : a.spot = none ∧ ∃ cs T fz, W.heap[a.block]? = some (.cells cs T fz) := by
      unfold Value.okWide at hv
      rw [ht] at hv
      simp only [Cell.okWide, ht, Cell.ok] at hv
      obtain ⟨_, _, _, hs, row, cells, hsh, _⟩ := hv
      refine ⟨hs, ?_⟩
      unfold World.shape? at hsh
      split at hsh
      · rename_i c el fz hh; exact ⟨c, el, fz, hh⟩
      · cases hsh
    obtain ⟨hs, cs, T, fz, hh⟩ := hhas
    have each : ∀ i, i < len → ∃ o : V3, ∀ (k : Nat) v, o.cells[k]? = some v → cs[a.off + i * 3 + k]? = some v := fun i hi => by
      have h1 := hel i hi
      rw [List.getElem?_eq_getElem (by omega), Option.bind_eq_some_iff] at h1
      obtain ⟨cc, h2, h3⟩ := h1
      obtain ⟨_, h4, h5⟩ := World.cells?_some h2
      rw [hc] at h4 h5
      obtain ⟨l, k1, k2, _⟩ := leaves_ints 3 _ (leafs_read 9 e _ hl n _ _ h3)
      obtain ⟨o, ho⟩ := ints_v3x k1
      refine ⟨o, fun k v hk => ?_⟩
      rw [ho, ← k2] at hk
      have hk2 : k < 3 := by
        have := (List.getElem?_eq_some_iff.1 hk).1
        omega
      have h6 := h5 k hk2
      rw [hk] at h6
      unfold World.cell? at h6
      have hblk : ((a.add (i * 3)).add k).block = a.block := by unfold Addr.add; split <;> split <;> rfl
      have hoff : ((a.add (i * 3)).add k).off = a.off + i * 3 + k := by
        unfold Addr.add
        split <;> split <;> (try simp only) <;> omega
      have hspt : ((a.add (i * 3)).add k).spot = none := by
        unfold Addr.add
        split <;> split <;> first | exact hs | rfl
      rw [hblk, hh] at h6
      simp only [hspt, hoff] at h6
      simpa using h6
    have build : ∀ m, m ≤ len → ∃ xs : List V3, xs.length = m ∧ ∀ (i : Nat) o, xs[i]? = some o → ∀ (k : Nat) v, o.cells[k]? = some v → cs[a.off + i * 3 + k]? = some v := by
      intro m
      induction m with
      | zero => intro _; exact ⟨[], rfl, by simp⟩
      | succ m ih =>
        intro hm2
        obtain ⟨xs, hx1, hx2⟩ := ih (by omega)
        obtain ⟨o, ho⟩ := each m (by omega)
        refine ⟨xs ++ [o], by simp [hx1], fun i p hp => ?_⟩
        by_cases hi : i < xs.length
        · rw [List.getElem?_append_left hi] at hp
          exact hx2 i p hp
        · rw [List.getElem?_append_right (by omega)] at hp
          have hi2 : i - xs.length = 0 := by
            have := (List.getElem?_eq_some_iff.1 hp).1
            simp at this; omega
          rw [hi2] at hp
          simp only [List.getElem?_cons_zero, Option.some.injEq] at hp
          subst hp
          have : i = m := by omega
          subst this
          exact ho
    obtain ⟨xs, hx1, hx2⟩ := build len (Nat.le_refl _)
    simp only [Prod.mk.injEq] at hx
    exact ⟨a, cap, xs, elems.map (·.1), rest.map (·.1), by rw [hx1], by omega, ⟨hs, cs, T, fz, hh, hx2⟩, hx.1, by simp [hlen, hx1]⟩
end

def vcsPlace (a : Addr) (n : Nat) : Place := ⟨a.block, a.off, 3, n, 0, false⟩
theorem vcs_blk {W : World} {a : Addr} {xs : List V3} (h : VcsAt W a xs) (r : Ren) : BlkRel W r (vcsPlace a xs.length) (.rows false true 3 xs.length (vcRow xs)) := by
  obtain ⟨_, cs, T, fz, hh, hx⟩ := h
  refine ⟨rfl, rfl, rfl, fun _ i _ => rfl, cs, T, fz, fun _ => rfl, hh, (fun h => by cases h), fun i hi => ⟨rfl, fun k v hv => ?_⟩⟩
  have hv' : (xs[i]).cells[k]? = some v := by
    unfold vcRow at hv
    rw [List.getElem?_eq_getElem hi] at hv
    exact hv
  have hpl : plain0 v = true := by
    have hk : k < 3 := (List.getElem?_eq_some_iff.1 hv').1
    have := allL_iff.1 (show allL plain0 (xs[i]).cells = true from rfl) v (List.mem_of_getElem? hv')
    exact this
  exact ⟨v, hx i _ (List.getElem?_eq_getElem hi) k v hv', (R0_plain hpl).2 rfl⟩
theorem vcs_rel {W : World} {a : Addr} {xs : List V3} (h : VcsAt W a xs) : MemRel W (allKeep W) (oneRen (vcsPlace a xs.length)) [.rows false true 3 xs.length (vcRow xs)] W := by
  have hb := vcs_blk h (oneRen (vcsPlace a xs.length))
  have key : ∀ {b : Nat} {p : Place}, oneRen (vcsPlace a xs.length) b = some (some p) → b = 0 ∧ p = vcsPlace a xs.length := fun {b p} hp => by
    unfold oneRen at hp
    split at hp
    · simp only [Option.some.injEq] at hp; exact ⟨rfl, hp.symm⟩
    · cases hp
  refine ⟨rfl, rfl, rfl, Nat.le_refl _, Nat.le_refl _, fun j hj => hj, fun j _ => rfl, fun b hb' => ?_, fun b hb' => ?_, fun b p hp => ?_, fun b p hp ho => ?_, fun b p hp _ _ => ?_, fun b p hp _ hz => ?_, fun b c p q hp _ _ hz => ?_, fun b c p q hp _ ho => ?_⟩
  · cases b with
    | zero => simp at hb'
    | succ b => rfl
  · unfold oneRen at hb'
    split at hb' <;> cases hb'
  · obtain ⟨rfl, rfl⟩ := key hp
    exact ⟨_, rfl, hb⟩
  · obtain ⟨rfl, rfl⟩ := key hp; cases ho
  · obtain ⟨rfl, rfl⟩ := key hp; exact hb.lt
  · obtain ⟨rfl, rfl⟩ := key hp; exact absurd rfl hz
  · obtain ⟨rfl, rfl⟩ := key hp; exact absurd rfl hz
  · obtain ⟨rfl, rfl⟩ := key hp; cases ho
theorem vcs_arg {a : Addr} {n cap : Nat} (hs : a.spot = none) (hc : n ≤ cap) : R (oneRen (vcsPlace a n)) (.slice (some ⟨0, 0, some 0⟩) n 3) (.slice (some a) n cap) := by
  refine R_sl_mk hc (Or.inr ⟨vcsPlace a n, rfl, ?_, hc, fun i hi => ?_, fun _ => rfl, fun _ => rfl, fun h => by cases h⟩)
  · cases a; simp only [Place.addr, vcsPlace, Option.getD_some, Nat.zero_mul, Nat.add_zero] at *; rw [hs]
  · simp only [Option.some.injEq] at hi; subst hi; simp [vcsPlace]
/-- A law of a list of indices, called. -/
theorem MemSem.callsV {P : Program} {f : FuncId} {W : World} {a : Addr} {xs : List V3} {cap : Nat} {m' : Mem} {more more' : List Value} (h : MemSem P f (.slice (some ⟨0, 0, some 0⟩) xs.length 3 :: more) [.rows false true 3 xs.length (vcRow xs)] (.bool true) m') (ha : VcsAt W a xs) (hc : xs.length ≤ cap) (hm : RL (R (oneRen (vcsPlace a xs.length))) more more') :
    Calls P f (.slice (some a) xs.length cap :: more').toArray W fun e W' => e = .returned (.bool true) ∧ Below W.heap.size W W' := by
  refine (h.2 W _ _ (.slice (some a) xs.length cap :: more') W ⟨vcs_arg ha.1 hc, hm⟩ (vcs_rel ha)).mono ?_
  rintro e w' ⟨v', r', rfl, h1, h2, h3⟩
  rw [(R_plain (v := .bool true) rfl).1 h1]
  exact ⟨rfl, ⟨h2.os, h2.tape, h2.output, h2.size, fun k hk => h2.kept k hk⟩⟩
end Go.Proofs.Ytjpfnfckpgilgaa.Vx
