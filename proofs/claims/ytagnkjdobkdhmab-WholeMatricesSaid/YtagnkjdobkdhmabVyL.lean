/-
  Loops: slots that are told no more, blocks that are dropped, and the rule by which a loop is told. Nothing here is trusted.
-/
import Derived.Test.YtagnkjdobkdhmabVyC
namespace Go.Proofs.Ytagnkjdobkdhmab.Vx
open Go Go.RowKit

def hasN (i : Nat) : List Nat → Bool
  | [] => false
  | j :: l => match Nat.beq j i with
    | true => true
    | false => hasN i l
/-- Only the listed slots are told on. -/
def keepL (live : List Nat) : Nat → List Value → List Value
  | _, [] => []
  | i, x :: l => match hasN i live with
    | true => x :: keepL live (i + 1) l
    | false => unk :: keepL live (i + 1) l
/-- No address at or beyond a block. -/
def below0 (M : Nat) : Value → Bool
  | .pointer (some a) => Nat.blt a.block M
  | .slice (some a) _ _ => Nat.blt a.block M
  | _ => true
def below1 (M : Nat) : Value → Bool
  | .agg cs => allL (below0 M) cs.toList
  | v => below0 M v
def below (M : Nat) : Value → Bool
  | .tuple vs => allL (below1 M) vs.toList
  | v => below1 M v
def belowBlk (M : Nat) : Blk → Bool
  | .cells _ _ c => allL (below0 M) c
  | .rows _ pl _ _ _ => pl
  | _ => true
def allB (p : Blk → Bool) : Mem → Bool
  | [] => true
  | x :: xs => match p x with
    | true => allB p xs
    | false => false
def cleanB (mask : List Nat) (M : Nat) (es : Exit × St) : Ans (Exit × St) :=
  forceL (keepL mask 0 es.2.tmps) fun tm => forceM (es.2.mem.take M) fun m => match allL (below M) tm && allB (belowBlk M) m with
    | true => .out (es.1, ⟨tm, m⟩)
    | false => .fail

/-- Behind a round that goes on, and behind one that leaves. -/
def cleanA (mask out : List Nat) (M : Nat) (es : Exit × St) : Ans (Exit × St) := match es.1 with
  | .normal => cleanB mask M es
  | _ => cleanB out M es

theorem allB_iff {p : Blk → Bool} : ∀ {l : Mem}, allB p l = true ↔ ∀ x ∈ l, p x = true
  | [] => by simp [allB]
  | x :: xs => by
    simp only [allB, List.forall_mem_cons]
    cases h : p x with
    | true => simp [allB_iff]
    | false => simp
theorem keepL_rel {r : Ren} (live : List Nat) : ∀ (i : Nat) {l l' : List Value}, RL (R r) l l' → RL (R r) (keepL live i l) l'
  | _, [], [], _ => trivial
  | i, x :: l, y :: l', h => by
    simp only [keepL]
    cases hasN i live with
    | false => exact ⟨R_unk r y, keepL_rel live (i + 1) h.2⟩
    | true => exact ⟨h.1, keepL_rel live (i + 1) h.2⟩
  | _, [], _ :: _, h => h.elim
  | _, _ :: _, [], h => h.elim
/-- A renaming cut off at a block. -/
def Ren.cut (r : Ren) (M : Nat) : Ren := fun b => if b < M then r b else none
theorem R0_cut {r : Ren} {M : Nat} {v v' : Value} (h : R0 r v v') (hb : below0 M v = true) : R0 (r.cut M) v v' := by
  unfold R0 at h ⊢
  cases v with
  | pointer a => cases a with
    | none => exact h
    | some a =>
      have hlt : a.block < M := Nat.blt_eq.mp hb
      simp only [Ren.cut, hlt, if_true]
      exact h
  | slice a n c => cases a with
    | none => exact h
    | some a =>
      have hlt : a.block < M := Nat.blt_eq.mp hb
      simp only [Ren.cut, hlt, if_true]
      exact h
  | iface t u => cases u <;> exact h
  | _ => exact h
theorem RL_cut {Q S : Value → Value → Prop} {p : Value → Bool} (hq : ∀ v v', Q v v' → p v = true → S v v') : ∀ {l l' : List Value}, RL Q l l' → allL p l = true → RL S l l'
  | [], [], _, _ => trivial
  | x :: l, y :: l', h, hb => ⟨hq x y h.1 (allL_iff.1 hb x (by simp)), RL_cut hq h.2 (allL_iff.2 fun z hz => allL_iff.1 hb z (by simp [hz]))⟩
  | [], _ :: _, h, _ => h.elim
  | _ :: _, [], h, _ => h.elim
theorem R1_cut {r : Ren} {M : Nat} {v v' : Value} (h : R1 r v v') (hb : below1 M v = true) : R1 (r.cut M) v v' := by
  cases v with
  | agg cs => obtain ⟨cs', rfl, h⟩ := h; exact ⟨cs', rfl, RL_cut (p := below0 M) (fun v v' h1 h2 => R0_cut h1 h2) h hb⟩
  | _ => unfold R1 at h ⊢; exact R0_cut h hb
theorem R_cut {r : Ren} {M : Nat} {v v' : Value} (h : R r v v') (hb : below M v = true) : R (r.cut M) v v' := by
  cases v with
  | tuple cs => obtain ⟨cs', rfl, h⟩ := h; exact ⟨cs', rfl, RL_cut (p := below1 M) (fun v v' h1 h2 => R1_cut h1 h2) h hb⟩
  | _ => unfold R at h ⊢; exact R1_cut h hb
theorem CellsAt_cut {r : Ren} {M : Nat} {cs : Array Value} {off : Nat} {c : List Value} (h : CellsAt r cs off c) (hb : allL (below0 M) c = true) : CellsAt (r.cut M) cs off c := fun k v hk => by
  obtain ⟨v', h1, h2⟩ := h k v hk
  exact ⟨v', h1, R0_cut h2 (allL_iff.1 hb v (List.mem_of_getElem? hk))⟩
theorem plain0_below {M : Nat} {v : Value} (h : plain0 v = true) : below0 M v = true := by
  cases v with
  | pointer a => cases a with
    | none => rfl
    | some a => simp [plain0] at h
  | slice a n c => cases a with
    | none => rfl
    | some a => simp [plain0] at h
  | _ => rfl
theorem BlkRel_cut {w : World} {r : Ren} {M : Nat} {p : Place} {k : Blk} (h : BlkRel w r p k) (hb : belowBlk M k = true) : BlkRel w (r.cut M) p k := by
  cases k with
  | cells own esz c =>
    obtain ⟨h1, h2, cs, T, fz, h3, h4, h5⟩ := h
    exact ⟨h1, h2, cs, T, fz, h3, h4, CellsAt_cut h5 hb⟩
  | rows own pl esz n row =>
    obtain ⟨h1, h2, h0, hp, cs, T, fz, h3, h4, h5⟩ := h
    have hb' : pl = true := hb
    exact ⟨h1, h2, h0, hp, cs, T, fz, h3, h4, fun i hi => ⟨(h5 i hi).1, CellsAt_cut (h5 i hi).2 (allL_iff.2 fun v hv => plain0_below (allL_iff.1 (hp hb' i hi) v hv))⟩⟩
  | _ => exact h
theorem MemRel_cut {w0 : World} {keep : Nat → Prop} {r : Ren} {m : Mem} {w : World} {M : Nat} (h : MemRel w0 keep r m w) (hb : allB (belowBlk M) (m.take M) = true) : MemRel w0 keep (r.cut M) (m.take M) w := by
  have hlt : ∀ {b : Nat} {q : Option Place}, (r.cut M) b = some q → b < M ∧ r b = some q := fun {b q} hq => by
    unfold Ren.cut at hq
    split at hq
    · rename_i hlt; exact ⟨hlt, hq⟩
    · cases hq
  have hget : ∀ {b : Nat}, b < M → (m.take M)[b]? = m[b]? := fun {b} hb => by rw [List.getElem?_take]; exact if_pos hb
  refine ⟨h.os, h.tape, h.output, h.size, h.klt, h.kept, fun b hm => ?_, fun b hq => ?_, fun b p hq => ?_, fun b p hq => ?_, fun b p hq => ?_, fun b c p q hb hc => ?_⟩
  · unfold Ren.cut
    split
    · rename_i hlt; rw [hget hlt] at hm; exact h.none b hm
    · rfl
  · obtain ⟨h1, h2⟩ := hlt hq
    rw [hget h1]; exact h.dead b h2
  · obtain ⟨h1, h2⟩ := hlt hq
    obtain ⟨k, h3, h4⟩ := h.blk b p h2
    refine ⟨k, by rw [hget h1]; exact h3, BlkRel_cut h4 (allB_iff.1 hb k (List.mem_of_getElem? (i := b) ?_))⟩
    rw [hget h1]; exact h3
  · obtain ⟨h1, h2⟩ := hlt hq; exact h.own b p h2
  · obtain ⟨h1, h2⟩ := hlt hq; exact h.read b p h2
  · obtain ⟨h1, h2⟩ := hlt hb
    obtain ⟨h3, h4⟩ := hlt hc
    exact h.inj b c p q h2 h4
theorem cleanB_rel {mask : List Nat} {M : Nat} {e e' : Exit} {s s' : St} (h : (cleanB mask M (e, s)).res = some (e', s')) {w0 : World} {keep : Nat → Prop} {r0 : Ren} {a : Act} {w : World} (h0 : ∀ b, M ≤ b → r0 b = none) (hr : Rel w0 keep r0 s a w) : e' = e ∧ Rel w0 keep r0 s' a w := by
  unfold cleanB at h
  rw [forceL_eq, forceM_eq] at h
  simp only at h
  split at h
  · rename_i hb
    rw [Bool.and_eq_true] at hb
    simp only [Ans.res, Option.some.injEq, Prod.mk.injEq] at h
    obtain ⟨rfl, rfl⟩ := h
    obtain ⟨r, hx, h1, h2, h3⟩ := hr
    refine ⟨rfl, r.cut M, fun b => ?_, h1, RL_cut (p := below M) (fun v v' h1 h2 => R_cut h1 h2) (keepL_rel mask 0 h2) hb.1, MemRel_cut h3 hb.2⟩
    by_cases hlt : b < M
    · simp only [Ren.cut, hlt, if_true]; exact hx b
    · exact Or.inl (h0 b (by omega))
  · simp [Ans.res] at h
theorem clean_rel {mask out : List Nat} {M : Nat} {e e' : Exit} {s s' : St} (h : (cleanA mask out M (e, s)).res = some (e', s')) {w0 : World} {keep : Nat → Prop} {r0 : Ren} {a : Act} {w : World} (h0 : ∀ b, M ≤ b → r0 b = none) (hr : Rel w0 keep r0 s a w) : e' = e ∧ Rel w0 keep r0 s' a w := by
  unfold cleanA at h
  cases e <;> exact cleanB_rel h h0 hr
theorem Rel.base {w0 : World} {keep : Nat → Prop} {r0 : Ren} {s : St} {a : Act} {w : World} (hr : Rel w0 keep r0 s a w) : ∀ b, s.mem.length ≤ b → r0 b = none := by
  intro b hb
  obtain ⟨r, hx, _, _, h3⟩ := hr
  have hn := h3.none b (Or.inl (List.getElem?_eq_none hb))
  rcases hx b with h | h | ⟨_, h⟩
  · exact h
  · rw [← h]; exact hn
  · rw [h] at hn; cases hn

/-- One round. -/
def roundR (C : Cx) (n : Nat) (x : Code) (mask mout : List Nat) (M : Nat) (st : St) : Option (Exit × St) := ((exCode n C x st).bind (cleanA mask mout M)).res
/-- A loop is told by its rounds: each leads on to a state of the same kind with less ahead of it, or out. -/
theorem loop_rule {C : Cx} (hC : CxOk C) {f : FuncId} {x : Code} (hin : InBody (C.at f) x) (n : Nat) (mask mout : List Nat) (M : Nat) {σ : Type} (H : σ → St) (μ : σ → Nat) (Inv : σ → Prop) (out : σ → Exit × St) (hM : ∀ g, (H g).mem.length = M)
    (hstep : ∀ g, Inv g → (∃ g', roundR (C.at f) n x mask mout M (H g) = some (.normal, H g') ∧ Inv g' ∧ μ g' < μ g ∧ out g' = out g) ∨ (roundR (C.at f) n x mask mout M (H g) = some (out g) ∧ (out g).1 ≠ .normal)) :
    ∀ g, Inv g → LoopSem C.P x (H g) (out g).1 (out g).2 := by
  have key : ∀ k g, μ g ≤ k → Inv g → LoopSem C.P x (H g) (out g).1 (out g).2 := by
    intro k
    induction k with
    | zero =>
      intro g hk hg Q w0 keep r0 a w hQ hr
      rcases hstep g hg with ⟨g', _, _, hlt, _⟩ | ⟨h1, h2⟩
      · omega
      · obtain ⟨⟨e1, s1⟩, h3, h4⟩ := Ans.bind_some h1
        refine LoopsTo.round ((exCode_sound hC n).1 f x hin _ _ _ h3 _ w0 keep r0 a w ?_ hr)
        intro a' w' hr'
        have hb := hr.base
        rw [hM g] at hb
        obtain ⟨he, hs⟩ := clean_rel h4 hb hr'
        subst he
        revert h2 hQ hs
        cases (out g).1 <;> intro hQ h2 hs <;> first | exact absurd rfl h2 | exact hQ a' w' hs
    | succ k ih =>
      intro g hk hg Q w0 keep r0 a w hQ hr
      rcases hstep g hg with ⟨g', h1, hg', hlt, ho⟩ | ⟨h1, h2⟩
      · obtain ⟨⟨e1, s1⟩, h3, h4⟩ := Ans.bind_some h1
        refine LoopsTo.round ((exCode_sound hC n).1 f x hin _ _ _ h3 _ w0 keep r0 a w ?_ hr)
        intro a' w' hr'
        have hb := hr.base
        rw [hM g] at hb
        obtain ⟨he, hs⟩ := clean_rel h4 hb hr'
        subst he
        refine ih g' (by omega) hg' Q w0 keep r0 a' w' ?_ hs
        rw [ho]; exact hQ
      · obtain ⟨⟨e1, s1⟩, h3, h4⟩ := Ans.bind_some h1
        refine LoopsTo.round ((exCode_sound hC n).1 f x hin _ _ _ h3 _ w0 keep r0 a w ?_ hr)
        intro a' w' hr'
        have hb := hr.base
        rw [hM g] at hb
        obtain ⟨he, hs⟩ := clean_rel h4 hb hr'
        subst he
        revert h2 hQ hs
        cases (out g).1 <;> intro hQ h2 hs <;> first | exact absurd rfl h2 | exact hQ a' w' hs
  exact fun g hg => key (μ g) g (Nat.le_refl _) hg

theorem loopsIn_trans : ∀ (b : Code) (x y : Code), x ∈ loopsIn b → y ∈ loopsIn x → y ∈ loopsIn b := by
  intro b
  induction b with
  | seq p q ihp ihq =>
    intro x y hx hy
    simp only [loopsIn, List.mem_append] at hx ⊢
    rcases hx with h | h
    · exact Or.inl (ihp x y h hy)
    · exact Or.inr (ihq x y h hy)
  | cond c p q ihp ihq =>
    intro x y hx hy
    simp only [loopsIn, List.mem_append] at hx ⊢
    rcases hx with h | h
    · exact Or.inl (ihp x y h hy)
    · exact Or.inr (ihq x y h hy)
  | block id p ih =>
    intro x y hx hy
    simp only [loopsIn] at hx ⊢
    exact ih x y hx hy
  | loop p ih =>
    intro x y hx hy
    simp only [loopsIn, List.mem_cons] at hx ⊢
    rcases hx with rfl | h
    · exact Or.inr hy
    · exact Or.inr (ih x y h hy)
  | _ => intro x y hx hy; simp [loopsIn] at hx
theorem loopsOf_in {C : Cx} {f k : Nat} {x : Code} (h : loopsOf C.P f k = [x]) : InBody (C.at f) x := by
  unfold loopsOf at h
  split at h
  · rename_i fn hf
    split at h
    · rename_i b hb
      have hx : x ∈ loopsIn b := (List.mem_filter.1 (show x ∈ (loopsIn b).filter fun x => Nat.beq (loopKey x) k by rw [h]; simp)).1
      exact Or.inl ⟨fn, b, hf, hb, fun y hy => loopsIn_trans b x y hx hy⟩
    · cases h
  · cases h
/-- What is told of a state of which less is known holds of the state. -/
theorem LoopSem.clean {P : Program} {x : Code} {st s : St} {e : Exit} {mask : List Nat} (h : LoopSem P x ⟨keepL mask 0 st.tmps, st.mem⟩ e s) : LoopSem P x st e s := by
  intro Q w0 keep r0 a w hQ hr
  refine h Q w0 keep r0 a w hQ ?_
  obtain ⟨r, hx, h1, h2, h3⟩ := hr
  exact ⟨r, hx, h1, keepL_rel mask 0 h2, h3⟩

/-! ## Slots by their numbers -/
def lookN (i : Nat) : List (Nat × Value) → Option Value
  | [] => none
  | (j, v) :: l => match Nat.beq j i with
    | true => some v
    | false => lookN i l
def tmpsOf (vs : List (Nat × Value)) : Nat → Nat → List Value
  | _, 0 => []
  | i, n + 1 => (match lookN i vs with
    | some v => v
    | none => unk) :: tmpsOf vs (i + 1) n
theorem lookN_spec {i : Nat} : ∀ {vs : List (Nat × Value)} {v : Value}, lookN i vs = some v → (i, v) ∈ vs ∧ hasN i (vs.map (·.1)) = true
  | [], v, h => by simp [lookN] at h
  | (j, u) :: vs, v, h => by
    simp only [lookN] at h
    cases hb : Nat.beq j i with
    | true =>
      simp only [hb, Option.some.injEq] at h
      subst h
      have : j = i := Nat.eq_of_beq_eq_true hb
      subst this
      exact ⟨by simp, by simp [hasN]⟩
    | false =>
      simp only [hb] at h
      obtain ⟨h1, h2⟩ := lookN_spec h
      exact ⟨by simp [h1], by simp only [List.map_cons, hasN, hb]; exact h2⟩
theorem lookN_none {i : Nat} : ∀ {vs : List (Nat × Value)}, lookN i vs = none → hasN i (vs.map (·.1)) = false
  | [], _ => rfl
  | (j, u) :: vs, h => by
    simp only [lookN] at h
    cases hb : Nat.beq j i with
    | true => simp [hb] at h
    | false =>
      simp only [hb] at h
      simp only [List.map_cons, hasN, hb]
      exact lookN_none h
theorem keep_eq (vs : List (Nat × Value)) : ∀ (l : List Value) (i : Nat), (∀ x ∈ vs, i ≤ x.1 → l[x.1 - i]? = some x.2) → keepL (vs.map (·.1)) i l = tmpsOf vs i l.length
  | [], i, _ => rfl
  | x :: l, i, h => by
    simp only [keepL, List.length_cons, tmpsOf]
    have ih : keepL (vs.map (·.1)) (i + 1) l = tmpsOf vs (i + 1) l.length := keep_eq vs l (i + 1) fun y hy hi => by
      have := h y hy (by omega)
      rw [show y.1 - i = (y.1 - (i + 1)) + 1 by omega, List.getElem?_cons_succ] at this
      exact this
    cases hl : lookN i vs with
    | some v =>
      obtain ⟨h1, h2⟩ := lookN_spec hl
      have := h (i, v) h1 (Nat.le_refl _)
      simp only [Nat.sub_self, List.getElem?_cons_zero, Option.some.injEq] at this
      simp only [h2, ih, this]
    | none => simp only [lookN_none hl, ih]
/-- A state that is told by some of its slots, and its blocks. -/
def stOf (N : Nat) (vs : List (Nat × Value)) (m : Mem) : St := ⟨tmpsOf vs 0 N, m⟩
/-- Is this state so long, with so many blocks? -/
def sized (st : St) (N M : Nat) : Bool := Nat.beq st.tmps.length N && Nat.beq st.mem.length M
theorem stOf_keep {st : St} {N M : Nat} (hs : sized st N M = true) (vs : List (Nat × Value)) (hv : ∀ x ∈ vs, st.tmps[x.1]? = some x.2) {m : Mem} (hm : st.mem = m) : (⟨keepL (vs.map (·.1)) 0 st.tmps, st.mem⟩ : St) = stOf N vs m := by
  unfold sized at hs
  rw [Bool.and_eq_true] at hs
  unfold stOf
  rw [← Nat.eq_of_beq_eq_true hs.1, ← hm, keep_eq vs st.tmps 0 (fun x hx _ => by simpa using hv x hx)]
end Go.Proofs.Ytagnkjdobkdhmab.Vx
