/-
  The executor's values against the machine's. Nothing here is trusted.
-/
import Derived.Test.YtokdjjdmmahbiaaVy1
namespace Go.Proofs.Ytokdjjdmmahbiaa.Vx
open Go Go.RowKit

theorem Ans.res_bind {α β : Type} : ∀ (x : Ans α) (k : α → Ans β), (x.bind k).res = x.res.bind fun a => (k a).res
  | .out a, k => rfl
  | .br b t f, k => by
    simp only [Ans.bind, Ans.res]
    cases b
    · exact Ans.res_bind f k
    · exact Ans.res_bind t k
  | .fail, k => rfl
theorem Ans.bind_some {α β : Type} {x : Ans α} {k : α → Ans β} {b : β} (h : (x.bind k).res = some b) : ∃ a, x.res = some a ∧ (k a).res = some b := by
  rw [Ans.res_bind] at h
  exact Option.bind_eq_some_iff.1 h
theorem Ans.br_some {α : Type} {b : Bool} {t f : Ans α} {a : α} (h : (Ans.br b t f).res = some a) : (b = true ∧ t.res = some a) ∨ (b = false ∧ f.res = some a) := by
  cases b
  · exact Or.inr ⟨rfl, h⟩
  · exact Or.inl ⟨rfl, h⟩
theorem Ans.out_some {α : Type} {a b : α} (h : (Ans.out a).res = some b) : a = b := by simpa [Ans.res] using h
theorem Ans.fail_some {α : Type} {a : α} (h : (Ans.fail : Ans α).res = some a) : False := by simp [Ans.res] at h
theorem Ans.ofO_some {α : Type} {o : Option α} {a : α} (h : (Ans.ofO o).res = some a) : o = some a := by
  cases o with
  | none => simp [Ans.ofO, Ans.res] at h
  | some b => simpa [Ans.ofO, Ans.res] using h

theorem val?_run {α : Type} {P : Program} (s : Sem α) : ∀ (a : α), val? P s = some a → ∀ w, s.run P w = .ok a w := by
  induction s with
  | pure b => intro a h w; simp only [val?, Option.some.injEq] at h; subst h; rfl
  | program k ih => intro a h w; exact ih P a h w
  | _ => intro a h w; simp [val?] at h

theorem forceL_eq {β : Type} : ∀ (l : List Value) (k : List Value → β), forceL l k = k l
  | [], _ => rfl
  | x :: xs, k => by simp only [forceL]; rw [forceL_eq xs]
theorem forceV_eq {β : Type} (v : Value) (k : Value → β) : forceV v k = k v := by
  cases v <;> simp [forceV, forceL_eq]
theorem forceB_eq {β : Type} (b : Blk) (k : Blk → β) : forceB b k = k b := by
  cases b <;> simp [forceB, forceL_eq]
theorem forceM_eq {β : Type} : ∀ (m : Mem) (k : Mem → β), forceM m k = k m
  | [], _ => rfl
  | x :: xs, k => by simp only [forceM]; rw [forceM_eq xs, forceB_eq]

theorem allL_iff {p : Value → Bool} : ∀ {l : List Value}, allL p l = true ↔ ∀ x ∈ l, p x = true
  | [] => by simp [allL]
  | x :: xs => by
    simp only [allL, List.forall_mem_cons]
    cases h : p x with
    | true => simp [allL_iff]
    | false => simp
theorem allO_iff {p : Operand → Bool} : ∀ {l : List Operand}, allO p l = true ↔ ∀ x ∈ l, p x = true
  | [] => by simp [allO]
  | x :: xs => by
    simp only [allO, List.forall_mem_cons]
    cases h : p x with
    | true => simp [allO_iff]
    | false => simp

/-! ## Where blocks lie -/
structure Place where
  blk : Nat
  off : Nat
  esz : Nat
  n : Nat
  room : Nat
  own : Bool
/-- none: not made yet · some none: given away · some (some p): it lies at p. -/
abbrev Ren := Nat → Option (Option Place)
def Place.addr (p : Place) (a : Addr) : Addr := ⟨p.blk, p.off + (a.spot.getD 0) * p.esz + a.off, none⟩
/-- So many rows from an address on are there. -/
def Place.has (p : Place) (a : Addr) (k : Nat) : Prop := ∀ i, a.spot = some i → i + k ≤ p.n
/-- A slice of so many elements of a size lies there, with the room behind it. -/
def Place.sl (p : Place) (a : Addr) (n e c : Nat) : Prop := n ≤ c ∧ p.has a n ∧ (p.esz ≠ 0 → p.esz = e) ∧ (a.spot ≠ none → p.esz = e) ∧ (p.own = true → p.esz ≠ 0 → (p.addr a).off + c * p.esz ≤ p.off + p.room)

def R0 (r : Ren) (v v' : Value) : Prop := match v with
  | .pointer (some a) => match r a.block with
    | none => False
    | some none => ∃ q, v' = .pointer (some q)
    | some (some p) => v' = .pointer (some (p.addr a)) ∧ p.has a 1
  | .slice (some a) n e => match r a.block with
    | none => False
    | some none => ∃ q c, v' = .slice (some q) n c ∧ n ≤ c
    | some (some p) => ∃ c, v' = .slice (some (p.addr a)) n c ∧ p.sl a n e c
  | .map (some b) => match r b with
    | none => False
    | some none => ∃ q, v' = .map (some q)
    | some (some p) => v' = .map (some p.blk)
  | .iface k .nilFunc => k = 1 → ∃ q c, v' = .slice (some q) 0 c
  | .iface _ (.float k b) => ∃ b', v' = .float k b' ∧ simF k b b'
  | .iface _ (.complex k a b) => ∃ a' b', v' = .complex k a' b' ∧ simF k a a' ∧ simF k b b'
  | v => v' = v
def RL (R : Value → Value → Prop) : List Value → List Value → Prop
  | [], [] => True
  | x :: xs, y :: ys => R x y ∧ RL R xs ys
  | _, _ => False
def R1 (r : Ren) (v v' : Value) : Prop := match v with
  | .agg cs => ∃ cs', v' = .agg cs' ∧ RL (R0 r) cs.toList cs'.toList
  | v => R0 r v v'
def R (r : Ren) (v v' : Value) : Prop := match v with
  | .tuple vs => ∃ vs', v' = .tuple vs' ∧ RL (R1 r) vs.toList vs'.toList
  | v => R1 r v v'

theorem RL.length {Q : Value → Value → Prop} : ∀ {l l' : List Value}, RL Q l l' → l.length = l'.length
  | [], [], _ => rfl
  | _ :: _, _ :: _, h => by simp [RL.length h.2]
  | [], _ :: _, h => h.elim
  | _ :: _, [], h => h.elim
theorem RL.get {Q : Value → Value → Prop} : ∀ {l l' : List Value}, RL Q l l' → ∀ (i : Nat) v, l[i]? = some v → ∃ v', l'[i]? = some v' ∧ Q v v'
  | [], [], _, i, v, h => by simp at h
  | x :: l, y :: l', h, 0, v, hv => by simp at hv; subst hv; exact ⟨y, by simp, h.1⟩
  | x :: l, y :: l', h, i + 1, v, hv => by simp only [List.getElem?_cons_succ] at hv ⊢; exact RL.get h.2 i v hv
  | [], _ :: _, h, _, _, _ => h.elim
  | _ :: _, [], h, _, _, _ => h.elim
theorem RL.of_get {Q : Value → Value → Prop} : ∀ {l l' : List Value}, l.length = l'.length → (∀ (i : Nat) v v', l[i]? = some v → l'[i]? = some v' → Q v v') → RL Q l l'
  | [], [], _, _ => trivial
  | x :: l, y :: l', h, g => ⟨g 0 x y rfl rfl, RL.of_get (by simpa using h) fun i v v' h1 h2 => g (i + 1) v v' (by simpa using h1) (by simpa using h2)⟩
  | [], _ :: _, h, _ => by simp at h
  | _ :: _, [], h, _ => by simp at h
theorem RL.mono {Q S : Value → Value → Prop} (hm : ∀ v v', Q v v' → S v v') : ∀ {l l' : List Value}, RL Q l l' → RL S l l'
  | [], [], _ => trivial
  | _ :: _, _ :: _, h => ⟨hm _ _ h.1, RL.mono hm h.2⟩
  | [], _ :: _, h => h.elim
  | _ :: _, [], h => h.elim
theorem RL.set {Q : Value → Value → Prop} : ∀ {l l' : List Value} (i : Nat) {v v' : Value}, RL Q l l' → Q v v' → RL Q (l.set i v) (l'.set i v')
  | [], [], _, _, _, _, _ => trivial
  | _ :: _, _ :: _, 0, _, _, h, hv => ⟨hv, h.2⟩
  | _ :: _, _ :: _, i + 1, _, _, h, hv => ⟨h.1, RL.set i h.2 hv⟩
  | [], _ :: _, _, _, _, h, _ => h.elim
  | _ :: _, [], _, _, _, h, _ => h.elim
theorem RL.drop {Q : Value → Value → Prop} : ∀ (n : Nat) {l l' : List Value}, RL Q l l' → RL Q (l.drop n) (l'.drop n)
  | 0, _, _, h => h
  | _ + 1, [], [], _ => trivial
  | n + 1, _ :: _, _ :: _, h => RL.drop n h.2
  | _ + 1, [], _ :: _, h => h.elim
  | _ + 1, _ :: _, [], h => h.elim
theorem RL.take {Q : Value → Value → Prop} : ∀ (n : Nat) {l l' : List Value}, RL Q l l' → RL Q (l.take n) (l'.take n)
  | 0, _, _, _ => trivial
  | _ + 1, [], [], _ => trivial
  | n + 1, _ :: _, _ :: _, h => ⟨h.1, RL.take n h.2⟩
  | _ + 1, [], _ :: _, h => h.elim
  | _ + 1, _ :: _, [], h => h.elim
theorem RL.append {Q : Value → Value → Prop} : ∀ {l l' m m' : List Value}, RL Q l l' → RL Q m m' → RL Q (l ++ m) (l' ++ m')
  | [], [], _, _, _, h => h
  | _ :: _, _ :: _, _, _, h, h' => ⟨h.1, RL.append h.2 h'⟩
  | [], _ :: _, _, _, h, _ => h.elim
  | _ :: _, [], _, _, h, _ => h.elim
theorem RL.setMany {Q : Value → Value → Prop} : ∀ {vs vs' : List Value} (off : Nat) {l l' : List Value}, RL Q l l' → RL Q vs vs' → RL Q (setMany l off vs) (setMany l' off vs')
  | [], [], _, _, _, h, _ => h
  | _ :: _, _ :: _, off, _, _, h, hv => RL.setMany (off + 1) (RL.set off h hv.1) hv.2
  | [], _ :: _, _, _, _, _, h => h.elim
  | _ :: _, [], _, _, _, _, h => h.elim

theorem R0_plain {r : Ren} {v v' : Value} (h : plain0 v = true) : R0 r v v' ↔ v' = v := by
  unfold R0
  cases v with
  | pointer a => cases a with
    | none => rfl
    | some a => simp [plain0] at h
  | slice a n c => cases a with
    | none => rfl
    | some a => simp [plain0] at h
  | map a => cases a with
    | none => rfl
    | some a => simp [plain0] at h
  | iface t u => simp [plain0] at h
  | _ => rfl
theorem nad0_cases {v : Value} (h : nad0 v = true) : (∃ t k b, v = .iface t (.float k b)) ∨ (∃ t k a b, v = .iface t (.complex k a b)) ∨ plain0 v = true := by
  unfold nad0 at h
  split at h
  · exact Or.inl ⟨_, _, _, rfl⟩
  · exact Or.inr (Or.inl ⟨_, _, _, _, rfl⟩)
  · exact Or.inr (Or.inr h)
theorem plain0_nad0 {v : Value} (h : plain0 v = true) : nad0 v = true := by
  unfold nad0
  split
  · rfl
  · rfl
  · exact h
theorem R0_nad {r r' : Ren} {v v' : Value} (h : nad0 v = true) (hr : R0 r v v') : R0 r' v v' := by
  rcases nad0_cases h with ⟨t, k, b, rfl⟩ | ⟨t, k, a, b, rfl⟩ | hp
  · exact hr
  · exact hr
  · exact (R0_plain (r := r') hp).2 ((R0_plain (r := r) hp).1 hr)
theorem allL_nad0 {l : List Value} (h : allL plain0 l = true) : allL nad0 l = true := allL_iff.2 fun x hx => plain0_nad0 (allL_iff.1 h x hx)
theorem nad0_scalar {v : Value} (h : nad0 v = true) : scalar v = true := by
  rcases nad0_cases h with ⟨t, k, b, rfl⟩ | ⟨t, k, a, b, rfl⟩ | hp
  · rfl
  · rfl
  · cases v with
    | iface t u => simp [plain0] at hp
    | agg c => simp [plain0] at hp
    | tuple c => simp [plain0] at hp
    | _ => rfl
theorem RL_eq {Q : Value → Value → Prop} {p : Value → Bool} (hp : ∀ v v', p v = true → (Q v v' ↔ v' = v)) : ∀ {l l' : List Value}, allL p l = true → (RL Q l l' ↔ l' = l)
  | [], [], _ => by simp [RL]
  | [], _ :: _, _ => by simp [RL]
  | _ :: _, [], _ => by simp [RL]
  | x :: l, y :: l', h => by
    have hx : p x = true := (allL_iff.1 h) x (by simp)
    have hl : allL p l = true := allL_iff.2 fun z hz => (allL_iff.1 h) z (by simp [hz])
    simp only [RL, List.cons.injEq, hp x y hx, RL_eq hp hl]
theorem R1_plain {r : Ren} {v v' : Value} (h : plain1 v = true) : R1 r v v' ↔ v' = v := by
  unfold R1
  cases v with
  | agg cs =>
    simp only [plain1] at h
    simp only [RL_eq (fun v v' => R0_plain (r := r)) h]
    constructor
    · rintro ⟨cs', rfl, h⟩; rw [show cs' = cs from by cases cs; cases cs'; simp_all]
    · rintro rfl; exact ⟨cs, rfl, rfl⟩
  | _ => exact R0_plain h
theorem R_plain {r : Ren} {v v' : Value} (h : plain v = true) : R r v v' ↔ v' = v := by
  unfold R
  cases v with
  | tuple vs =>
    simp only [plain] at h
    simp only [RL_eq (fun v v' => R1_plain (r := r)) h]
    constructor
    · rintro ⟨cs', rfl, h⟩; rw [show cs' = vs from by cases vs; cases cs'; simp_all]
    · rintro rfl; exact ⟨vs, rfl, rfl⟩
  | _ => exact R1_plain h
theorem R_unk (r : Ren) (v' : Value) : R r unk v' := fun h => absurd h (by decide)
theorem R_emp {r : Ren} {v' : Value} : R r emp v' ↔ ∃ q c, v' = .slice (some q) 0 c := ⟨fun h => h rfl, fun h _ => h⟩
/-- A cell is a cell. -/
theorem R0_R1 {r : Ren} {v v' : Value} (hs : scalar v = true) : R1 r v v' ↔ R0 r v v' := by
  cases v with
  | agg cs => simp [scalar] at hs
  | _ => rfl
theorem R1_R {r : Ren} {v v' : Value} (hs : ∀ vs, v ≠ .tuple vs) : R r v v' ↔ R1 r v v' := by
  cases v with
  | tuple vs => exact absurd rfl (hs vs)
  | _ => rfl
theorem R0_R {r : Ren} {v v' : Value} (hs : scalar v = true) : R r v v' ↔ R0 r v v' := by
  rw [R1_R (fun vs e => by subst e; simp [scalar] at hs), R0_R1 hs]
/-- The cells of a value that is no tuple. -/
theorem R_cells {r : Ren} {v v' : Value} (h : R r v v') (hs : allL scalar v.cells.toList = true) : RL (R0 r) v.cells.toList v'.cells.toList := by
  cases v with
  | tuple vs => simp [Value.cells, allL, scalar] at hs
  | agg cs =>
    obtain ⟨cs', rfl, h⟩ := h
    exact h
  | pointer a =>
    have h' : R0 r (.pointer a) v' := h
    have : ∃ q, v' = .pointer q := by
      unfold R0 at h'
      cases a with
      | none => exact ⟨none, h'⟩
      | some a =>
        simp only at h'
        revert h'
        cases r a.block with
        | none => exact fun h => h.elim
        | some q => cases q with
          | none => rintro ⟨q, h⟩; exact ⟨_, h⟩
          | some p => rintro ⟨rfl, _⟩; exact ⟨_, rfl⟩
    obtain ⟨q, rfl⟩ := this
    exact ⟨h', trivial⟩
  | slice a n c =>
    have h' : R0 r (.slice a n c) v' := h
    have : ∃ q n c, v' = .slice q n c := by
      unfold R0 at h'
      cases a with
      | none => exact ⟨none, n, c, h'⟩
      | some a =>
        simp only at h'
        revert h'
        cases r a.block with
        | none => exact fun h => h.elim
        | some q => cases q with
          | none => rintro ⟨q, c, h, _⟩; exact ⟨_, _, _, h⟩
          | some p => rintro ⟨c, rfl, _⟩; exact ⟨_, _, _, rfl⟩
    obtain ⟨q, m, d, rfl⟩ := this
    exact ⟨h', trivial⟩
  | map a =>
    have h' : R0 r (.map a) v' := h
    have : ∃ q, v' = .map q := by
      unfold R0 at h'
      cases a with
      | none => exact ⟨none, h'⟩
      | some a =>
        simp only at h'
        revert h'
        cases r a with
        | none => exact fun h => h.elim
        | some q => cases q with
          | none => rintro ⟨q, h⟩; exact ⟨_, h⟩
          | some p => rintro rfl; exact ⟨_, rfl⟩
    obtain ⟨q, rfl⟩ := this
    exact ⟨h', trivial⟩
  | iface t u =>
    have h' : R0 r (.iface t u) v' := h
    cases u with
    | nilFunc => simp [Value.cells, allL, scalar] at hs
    | float k b => obtain ⟨b', rfl, h2⟩ := h'; exact ⟨⟨b', rfl, h2⟩, trivial⟩
    | complex k a b => obtain ⟨a', b', rfl, h2⟩ := h'; exact ⟨⟨a', b', rfl, h2⟩, trivial⟩
    | _ => cases h'; exact ⟨rfl, trivial⟩
  | _ => cases h; exact ⟨rfl, trivial⟩
theorem scalar_cells {v : Value} (h : scalar v = true) : v.cells = #[v] := by
  cases v <;> simp [scalar] at h <;> rfl
theorem R_scalar {r : Ren} {v v' : Value} (h : R r v v') (hs : scalar v = true) : v'.cells = #[v'] := by
  have := R_cells h (by rw [scalar_cells hs]; simp [allL, hs])
  rw [scalar_cells hs] at this
  have hl := this.length
  cases v' with
  | agg cs =>
    exfalso
    have h0 : R0 r v (.agg cs) := (R0_R hs).1 h
    unfold R0 at h0
    cases v with
    | pointer a => cases a with
      | none => cases h0
      | some a =>
        simp only at h0
        revert h0
        cases r a.block with
        | none => exact fun h => h.elim
        | some q => cases q with
          | none => rintro ⟨q, hq⟩; cases hq
          | some p => rintro ⟨hq, _⟩; cases hq
    | slice a n c => cases a with
      | none => cases h0
      | some a =>
        simp only at h0
        revert h0
        cases r a.block with
        | none => exact fun h => h.elim
        | some q => cases q with
          | none => rintro ⟨q, c, hq, _⟩; cases hq
          | some p => rintro ⟨c, hq, _⟩; cases hq
    | map a => cases a with
      | none => cases h0
      | some a =>
        simp only at h0
        revert h0
        cases r a with
        | none => exact fun h => h.elim
        | some q => cases q with
          | none => rintro ⟨q, hq⟩; cases hq
          | some p => intro hq; cases hq
    | iface t u => cases u <;> first | (simp [scalar] at hs; done) | (obtain ⟨_, hq, _⟩ := h0; cases hq; done) | (obtain ⟨_, _, hq, _⟩ := h0; cases hq; done) | cases h0
    | agg cs => simp [scalar] at hs
    | _ => cases h0
  | _ => rfl

def nad1 : Value → Bool
  | .agg cs => allL nad0 cs.toList
  | v => nad0 v
def nad : Value → Bool
  | .tuple vs => allL nad1 vs.toList
  | v => nad1 v
theorem nad1_cases {v : Value} (h : nad1 v = true) : (∃ cs, v = .agg cs ∧ allL nad0 cs.toList = true) ∨ ((∀ cs, v ≠ .agg cs) ∧ nad0 v = true) := by
  unfold nad1 at h
  split at h
  · exact Or.inl ⟨_, rfl, h⟩
  · rename_i hn
    exact Or.inr ⟨fun cs e => hn cs e, h⟩
theorem nad_cases {v : Value} (h : nad v = true) : (∃ cs, v = .tuple cs ∧ allL nad1 cs.toList = true) ∨ ((∀ cs, v ≠ .tuple cs) ∧ nad1 v = true) := by
  unfold nad at h
  split at h
  · exact Or.inl ⟨_, rfl, h⟩
  · rename_i hn
    exact Or.inr ⟨fun cs e => hn cs e, h⟩
theorem R1_R0 {r : Ren} {v v' : Value} (h : ∀ cs, v ≠ .agg cs) : R1 r v v' ↔ R0 r v v' := by
  cases v with
  | agg cs => exact absurd rfl (h cs)
  | _ => rfl
theorem RL_mem {Q S : Value → Value → Prop} : ∀ {l l' : List Value}, (∀ x ∈ l, ∀ y, Q x y → S x y) → RL Q l l' → RL S l l'
  | [], [], _, _ => trivial
  | x :: l, y :: l', h, g => ⟨h x (by simp) y g.1, RL_mem (fun z hz => h z (by simp [hz])) g.2⟩
  | [], _ :: _, _, g => g.elim
  | _ :: _, [], _, g => g.elim
theorem R1_nad {r r' : Ren} {v v' : Value} (h : nad1 v = true) (hr : R1 r v v') : R1 r' v v' := by
  rcases nad1_cases h with ⟨cs, rfl, hc⟩ | ⟨hn, hc⟩
  · obtain ⟨cs', rfl, g⟩ := hr
    exact ⟨cs', rfl, RL_mem (fun x hx y => R0_nad (allL_iff.1 hc x hx)) g⟩
  · exact (R1_R0 hn).2 (R0_nad hc ((R1_R0 hn).1 hr))
theorem R_nad {r r' : Ren} {v v' : Value} (h : nad v = true) (hr : R r v v') : R r' v v' := by
  rcases nad_cases h with ⟨cs, rfl, hc⟩ | ⟨hn, hc⟩
  · obtain ⟨cs', rfl, g⟩ := hr
    exact ⟨cs', rfl, RL_mem (fun x hx y => R1_nad (allL_iff.1 hc x hx)) g⟩
  · exact (R1_R hn).2 (R1_nad hc ((R1_R hn).1 hr))


/-! ## What is known later holds still -/
/-- A block that is no longer written. -/
def Place.asView (p : Place) : Place := { p with own := false, room := 1 }
/-- Blocks may come and go, none moves. -/
def Ext (r r' : Ren) : Prop := ∀ b, r b = none ∨ r' b = r b ∨ ((∃ p, r b = some p) ∧ r' b = some none) ∨ ∃ p, r b = some (some p) ∧ r' b = some (some p.asView)
theorem Ext.refl (r : Ren) : Ext r r := fun _ => Or.inr (Or.inl rfl)
theorem Ext.trans {r s t : Ren} (h : Ext r s) (k : Ext s t) : Ext r t := by
  intro b
  rcases h b with h1 | h1 | ⟨⟨p, h1⟩, h2⟩ | ⟨p, h1, h2⟩
  · exact Or.inl h1
  · rcases k b with k1 | k1 | ⟨⟨q, k1⟩, k2⟩ | ⟨q, k1, k2⟩
    · left; rw [← h1]; exact k1
    · right; left; rw [k1, h1]
    · right; right; left; exact ⟨⟨q, by rw [← h1]; exact k1⟩, k2⟩
    · right; right; right; exact ⟨q, by rw [← h1]; exact k1, k2⟩
  · rcases k b with k1 | k1 | ⟨_, k2⟩ | ⟨q, k1, k2⟩
    · rw [h2] at k1; cases k1
    · right; right; left; exact ⟨⟨p, h1⟩, by rw [k1, h2]⟩
    · right; right; left; exact ⟨⟨p, h1⟩, k2⟩
    · rw [h2] at k1; simp at k1
  · rcases k b with k1 | k1 | ⟨_, k2⟩ | ⟨q, k1, k2⟩
    · rw [h2] at k1; cases k1
    · right; right; right; exact ⟨p, h1, by rw [k1, h2]⟩
    · right; right; left; exact ⟨⟨_, h1⟩, k2⟩
    · rw [h2] at k1
      simp only [Option.some.injEq] at k1
      subst k1
      right; right; right; exact ⟨p, h1, k2⟩
theorem Place.sl_view {p : Place} {a : Addr} {n e c : Nat} (h : p.sl a n e c) : p.asView.sl a n e c := ⟨h.1, h.2.1, h.2.2.1, h.2.2.2.1, fun h => by cases h⟩
theorem R0.ext {r r' : Ren} (he : Ext r r') {v v' : Value} (h : R0 r v v') : R0 r' v v' := by
  unfold R0 at h ⊢
  cases v with
  | pointer a => cases a with
    | none => exact h
    | some a =>
      simp only at h ⊢
      rcases he a.block with h1 | h1 | ⟨⟨p, h1⟩, h2⟩ | ⟨p, h1, h2⟩
      · rw [h1] at h; exact h.elim
      · rw [h1]; exact h
      · rw [h2]
        rw [h1] at h
        cases p with
        | none => exact h
        | some p => exact ⟨_, h.1⟩
      · rw [h2]
        rw [h1] at h
        exact h
  | slice a n c => cases a with
    | none => exact h
    | some a =>
      simp only at h ⊢
      rcases he a.block with h1 | h1 | ⟨⟨p, h1⟩, h2⟩ | ⟨p, h1, h2⟩
      · rw [h1] at h; exact h.elim
      · rw [h1]; exact h
      · rw [h2]
        rw [h1] at h
        cases p with
        | none => exact h
        | some p => obtain ⟨c, h, h'⟩ := h; exact ⟨_, _, h, h'.1⟩
      · rw [h2]
        rw [h1] at h
        obtain ⟨c, h, h'⟩ := h
        exact ⟨c, h, Place.sl_view h'⟩
  | map a => cases a with
    | none => exact h
    | some a =>
      simp only at h ⊢
      rcases he a with h1 | h1 | ⟨⟨p, h1⟩, h2⟩ | ⟨p, h1, h2⟩
      · rw [h1] at h; exact h.elim
      · rw [h1]; exact h
      · rw [h2]
        rw [h1] at h
        cases p with
        | none => exact h
        | some p => exact ⟨_, h⟩
      · rw [h2]
        rw [h1] at h
        exact h
  | iface t u => cases u <;> exact h
  | _ => exact h
theorem R1.ext {r r' : Ren} (he : Ext r r') {v v' : Value} (h : R1 r v v') : R1 r' v v' := by
  cases v with
  | agg cs => obtain ⟨cs', rfl, h⟩ := h; exact ⟨cs', rfl, RL.mono (fun _ _ => R0.ext he) h⟩
  | _ => unfold R1 at h ⊢; exact R0.ext he h
theorem R.ext {r r' : Ren} (he : Ext r r') {v v' : Value} (h : R r v v') : R r' v v' := by
  cases v with
  | tuple cs => obtain ⟨cs', rfl, h⟩ := h; exact ⟨cs', rfl, RL.mono (fun _ _ => R1.ext he) h⟩
  | _ => unfold R at h ⊢; exact R1.ext he h

end Go.Proofs.Ytokdjjdmmahbiaa.Vx
