/-
  The executor is sound: regions in any order, code, calls. Nothing here is trusted.
-/
import Derived.Test.YtagnkjdobkdhmaaVx6
namespace Go.Proofs.Ytagnkjdobkdhmaa.Vx
open Go Go.RowKit

theorem okFrom_spec {ops : Array Oper} {i : Nat} {x : Oper × Option Nat} : ∀ (l : List ((Oper × Option Nat) × Nat)), okFrom ops i x l = true → ∀ y ∈ l, y.2.testBit i = false → swapOk ops x y.1 = true
  | [], _, y, hy, _ => by cases hy
  | (z, m) :: l, h, y, hy, he => by
    simp only [okFrom, Bool.and_eq_true, Bool.or_eq_true] at h
    rcases List.mem_cons.1 hy with rfl | hy
    · rcases h.1 with h1 | h1
      · simp only at he; rw [he] at h1; cases h1
      · exact h1
    · exact okFrom_spec l h.2 y hy he

theorem okAll_spec {ops : Array Oper} : ∀ (l : List ((Oper × Option Nat) × Nat)) (k : Nat), okAll ops k l = true → ∀ (j i : Nat) (x y : (Oper × Option Nat) × Nat), j < i → l[j]? = some x → l[i]? = some y → y.2.testBit (k + j) = false → swapOk ops x.1 y.1 = true
  | [], _, _, j, _, _, _, _, hx, _, _ => by simp at hx
  | (z, m) :: l, k, h, j, i, x, y, hji, hx, hy, he => by
    simp only [okAll, Bool.and_eq_true] at h
    cases i with
    | zero => omega
    | succ i =>
      simp only [List.getElem?_cons_succ] at hy
      cases j with
      | zero =>
        simp only [List.getElem?_cons_zero, Option.some.injEq] at hx
        subst hx
        exact okFrom_spec l h.1 y (List.mem_of_getElem? hy) (by simpa using he)
      | succ j =>
        simp only [List.getElem?_cons_succ] at hx
        exact okAll_spec l (k + 1) h.2 j i x y (by omega) hx hy (by rw [show k + 1 + j = k + (j + 1) by omega]; exact he)

/-- What a number's bits name has been listed, where all edges of its operation lead to what has been. -/
def MaskInv (ops : Array Oper) (L : Nat → Prop) (acc : List Nat) : Prop :=
  ∀ k o, k < acc.length → ops[k]? = some o → (∀ e ∈ o.after, Region.binds .any e = true → L e.on) → ∀ j, (acc.getD k 0).testBit j = true → L j

theorem fold_mask {ops : Array Oper} {L : Nat → Prop} {acc : List Nat} (hinv : MaskInv ops L acc) (hacc : acc.length ≤ ops.size) (hdown : ∀ k o, ops[k]? = some o → L k → ∀ e ∈ o.after, Region.binds .any e = true → L e.on) :
    ∀ (es : List Edge) (s : Nat), (∀ e ∈ es, Region.binds .any e = true → L e.on) → (∀ j, s.testBit j = true → L j) → ∀ j, (es.foldl (fun s e => match Region.binds .any e with
      | true => s ||| 2 ^ e.on ||| acc.getD e.on 0
      | false => s) s).testBit j = true → L j
  | [], s, _, hs, j, hj => hs j hj
  | e :: es, s, he, hs, j, hj => by
    rw [List.foldl_cons] at hj
    refine fold_mask hinv hacc hdown es _ (fun e' h' => he e' (by simp [h'])) ?_ j hj
    intro q hq
    cases hb : Region.binds .any e with
    | false => rw [hb] at hq; exact hs q hq
    | true =>
      rw [hb] at hq
      simp only [Nat.testBit_or, Bool.or_eq_true] at hq
      have hl := he e (by simp) hb
      rcases hq with (h1 | h1) | h1
      · exact hs q h1
      · rw [Nat.testBit_two_pow] at h1
        have : e.on = q := by simpa using h1
        rw [← this]; exact hl
      · by_cases hlt : e.on < acc.length
        · have ho : ops[e.on]? = some (ops[e.on]'(by omega)) := Array.getElem?_eq_getElem (by omega)
          exact hinv e.on _ hlt ho (hdown e.on _ ho hl) q h1
        · rw [List.getD_eq_getElem?_getD, List.getElem?_eq_none (by omega)] at h1
          simp at h1

theorem masks_spec {ops : Array Oper} {L : Nat → Prop} (hdown : ∀ k o, ops[k]? = some o → L k → ∀ e ∈ o.after, Region.binds .any e = true → L e.on) :
    ∀ (l : List Oper) (acc : List Nat), (∀ i, l[i]? = ops[acc.length + i]?) → MaskInv ops L acc → MaskInv ops L (masks acc l) ∧ (masks acc l).length = acc.length + l.length
  | [], acc, _, h => ⟨h, rfl⟩
  | y :: l, acc, hl, h => by
    have hy : ops[acc.length]? = some y := by have := hl 0; simpa using this.symm
    have hsz : acc.length < ops.size := (Array.getElem?_eq_some_iff.1 hy).1
    have := masks_spec hdown l (acc ++ [maskOf acc y]) (fun i => by
      have := hl (i + 1)
      simp only [List.getElem?_cons_succ] at this
      rw [this, List.length_append, List.length_singleton, show acc.length + (i + 1) = acc.length + 1 + i by omega]) (by
      intro k o hk ho he j hj
      rw [List.length_append, List.length_singleton] at hk
      rw [List.getD_eq_getElem?_getD, List.getElem?_append] at hj
      split at hj
      · rename_i hlt
        exact h k o hlt ho he j (by rw [List.getD_eq_getElem?_getD]; exact hj)
      · have hkk : k = acc.length := by omega
        subst hkk
        rw [hy] at ho
        simp only [Option.some.injEq] at ho
        subst ho
        simp only [Nat.sub_self, List.getElem?_cons_zero, Option.getD_some] at hj
        exact fold_mask h (by omega) hdown y.after.toList 0 (fun e he' hb => he e (Array.mem_toList_iff.1 he') hb) (fun j hj => by simp at hj) j hj)
    refine ⟨this.1, ?_⟩
    simp only [masks]
    rw [this.2]
    simp
    omega

theorem places_cons (draw : Bool) (tmps : List Value) (env : List (Nat × Option Nat)) (n : Nat) (o : Oper) (l : List Oper) :
    ∃ b env' n', places draw tmps env n (o :: l) = (o, b) :: places draw tmps env' n' l ∧ n ≤ n' ∧ (makes o.op = true → b = some n ∧ n' = n + 1) := by
  cases hm : makes o.op with
  | true => exact ⟨some n, _, n + 1, by simp only [places, hm]; rfl, by omega, fun _ => ⟨rfl, rfl⟩⟩
  | false =>
    cases draw with
    | false => exact ⟨none, env, n, by simp only [places, hm], by omega, fun h => by cases h⟩
    | true => exact ⟨_, _, n, by simp only [places, hm]; rfl, by omega, fun h => by cases h⟩

theorem places_get (draw : Bool) (tmps : List Value) : ∀ (l : List Oper) (env : List (Nat × Option Nat)) (n i : Nat), ((places draw tmps env n l)[i]?).map (·.1) = l[i]?
  | [], _, _, i => by simp [places]
  | o :: l, env, n, i => by
    obtain ⟨b, env', n', h, _, _⟩ := places_cons draw tmps env n o l
    rw [h]
    cases i with
    | zero => simp
    | succ i => simp only [List.getElem?_cons_succ]; exact places_get draw tmps l env' n' i

theorem class2_makes {o : Op} (h : memClass o = 2) : makes o = true := by
  cases o <;> simp [memClass] at h <;> rfl

theorem places_ge (draw : Bool) (tmps : List Value) : ∀ (l : List Oper) (env : List (Nat × Option Nat)) (n i : Nat) (x : Oper × Option Nat), (places draw tmps env n l)[i]? = some x → memClass x.1.op = 2 → ∃ p, x.2 = some p ∧ n ≤ p
  | [], _, _, _, _, h, _ => by simp [places] at h
  | o :: l, env, n, i, x, h, h2 => by
    obtain ⟨b, env', n', hp, hn, hm⟩ := places_cons draw tmps env n o l
    rw [hp] at h
    cases i with
    | zero =>
      simp only [List.getElem?_cons_zero, Option.some.injEq] at h
      subst h
      exact ⟨n, (hm (class2_makes h2)).1, Nat.le_refl _⟩
    | succ i =>
      simp only [List.getElem?_cons_succ] at h
      obtain ⟨p, h1, h3⟩ := places_ge draw tmps l env' n' i x h h2
      exact ⟨p, h1, by omega⟩

theorem places_lt (draw : Bool) (tmps : List Value) : ∀ (l : List Oper) (env : List (Nat × Option Nat)) (n j i : Nat) (x y : Oper × Option Nat), j < i → (places draw tmps env n l)[j]? = some x → (places draw tmps env n l)[i]? = some y → memClass x.1.op = 2 → memClass y.1.op = 2 → x.2 ≠ y.2
  | [], _, _, _, _, _, _, _, h, _, _, _ => by simp [places] at h
  | o :: l, env, n, j, i, x, y, hji, hx, hy, h2, h3 => by
    obtain ⟨b, env', n', hp, hn, hm⟩ := places_cons draw tmps env n o l
    rw [hp] at hx hy
    cases i with
    | zero => omega
    | succ i =>
      simp only [List.getElem?_cons_succ] at hy
      cases j with
      | zero =>
        simp only [List.getElem?_cons_zero, Option.some.injEq] at hx
        subst hx
        obtain ⟨e1, e2⟩ := hm (class2_makes h2)
        obtain ⟨p, q1, q2⟩ := places_ge draw tmps l env' n' i y hy h3
        rw [e1, q1]
        simp only [ne_eq, Option.some.injEq]
        omega
      | succ j =>
        simp only [List.getElem?_cons_succ] at hx
        exact places_lt draw tmps l env' n' j i x y (by omega) hx hy h2 h3

theorem places_length (draw : Bool) (tmps : List Value) : ∀ (l : List Oper) (env : List (Nat × Option Nat)) (n : Nat), (places draw tmps env n l).length = l.length
  | [], _, _ => rfl
  | o :: l, env, n => by
    obtain ⟨b, env', n', hp, _, _⟩ := places_cons draw tmps env n o l
    rw [hp, List.length_cons, List.length_cons, places_length draw tmps l]

theorem okEdges_spec : ∀ (l : List Oper) (k : Nat), okEdges k l = true → ∀ (i : Nat) (y : Oper), l[i]? = some y → ∀ e ∈ y.after, Region.binds .any e = true → e.on < k + i
  | [], _, _, i, y, hy, _, _, _ => by simp at hy
  | z :: l, k, h, i, y, hy, e, he, hb => by
    simp only [okEdges, Bool.and_eq_true] at h
    cases i with
    | zero =>
      simp only [List.getElem?_cons_zero, Option.some.injEq] at hy
      subst hy
      have := List.all_eq_true.1 h.1 e (Array.mem_toList_iff.2 he)
      simpa [hb] using this
    | succ i =>
      simp only [List.getElem?_cons_succ] at hy
      have := okEdges_spec l (k + 1) h.2 i y hy e he hb
      omega

/-- What has not been listed yet, in the text's order. -/
def remIdx (n : Nat) (listed : Array Bool) : List Nat := (List.range n).filter fun i => !listed.getD i true
def remOps (pl : List (Oper × Option Nat)) (ops : Array Oper) (listed : Array Bool) : List (Oper × Option Nat) := (remIdx ops.size listed).filterMap (pl[·]?)

theorem mem_remIdx {n i : Nat} {listed : Array Bool} : i ∈ remIdx n listed ↔ i < n ∧ listed.getD i true = false := by
  simp [remIdx]

theorem getD_ft {listed : Array Bool} {n j : Nat} (hs : listed.size = n) (hj : j < n) (h : listed.getD j true = true) : listed.getD j false = true := by
  have hj' : j < listed.size := by omega
  simp only [Array.getD_eq_getD_getElem?, Array.getElem?_eq_getElem hj', Option.getD_some] at h ⊢
  exact h

theorem remIdx_split {n i : Nat} {listed : Array Bool} (hi : i < n) (hl : listed.getD i true = false) (hsz : listed.size = n) : ∃ pre post, remIdx n listed = pre ++ i :: post ∧ remIdx n (listed.setIfInBounds i true) = pre ++ post ∧ ∀ j ∈ pre, j < i ∧ listed.getD j true = false := by
  have hr : List.range n = List.range i ++ i :: List.range' (i + 1) (n - i - 1) := by
    have e1 : n = i + (1 + (n - i - 1)) := by omega
    rw [List.range_eq_range', e1, ← List.range'_append_1, List.range_eq_range', Nat.add_comm 1, List.range'_succ]
    simp
  have hne : ∀ j, j ≠ i → (listed.setIfInBounds i true).getD j true = listed.getD j true := fun j hj => by
    simp only [Array.getD_eq_getD_getElem?, Array.getElem?_setIfInBounds]
    rw [if_neg (fun e => hj e.symm)]
  have heq : (listed.setIfInBounds i true).getD i true = true := by
    simp only [Array.getD_eq_getD_getElem?, Array.getElem?_setIfInBounds]
    simp [hsz, hi]
  refine ⟨(List.range i).filter fun j => !listed.getD j true, (List.range' (i + 1) (n - i - 1)).filter fun j => !listed.getD j true, ?_, ?_, fun j hj => ?_⟩
  · unfold remIdx
    rw [hr, List.filter_append, List.filter_cons_of_pos (by simp only [hl]; rfl)]
  · unfold remIdx
    rw [hr, List.filter_append, List.filter_cons_of_neg (by simp only [heq]; decide)]
    congr 1
    · exact List.filter_congr fun j hj => by rw [hne j (by have := List.mem_range.1 hj; omega)]
    · exact List.filter_congr fun j hj => by rw [hne j (by have := List.mem_range'.1 hj; omega)]
  · simp at hj
    exact ⟨hj.1, by simpa using hj.2⟩

theorem wpAny_ok {P : Program} {call : FuncId → List Value → Option Value} (hcall : CallOk P call) {ops : Array Oper} {pl : List (Oper × Option Nat)} (hpl : ∀ i : Nat, (pl[i]?).map (fun x => x.1) = ops.toList[i]?) (hplt : ∀ (j i : Nat) (x y : Oper × Option Nat), j < i → pl[j]? = some x → pl[i]? = some y → memClass x.1.op = 2 → memClass y.1.op = 2 → x.2 ≠ y.2) (hok : okDraw ops pl = true)
    {Q : Exit → Act → World → Prop} {w0 : World} {s : St} (hQ : ∀ a w, Rel w0 s a w → Q .normal a w) :
    ∀ (fuel : Nat) (listed : Array Bool) (st : St) (a : Act) (w : World), listed.size = ops.size → (∀ k o, ops[k]? = some o → listed.getD k false = true → ∀ e ∈ o.after, Region.binds .any e = true → listed.getD e.on false = true) → (remIdx ops.size listed).length ≤ fuel → runList P call ops (remOps pl ops listed) st = some s → Rel w0 st a w → wpAny P .any ops Q fuel listed a w := by
  unfold okDraw at hok
  rw [Bool.and_eq_true] at hok
  have none_left : ∀ (listed : Array Bool) (st : St) (a : Act) (w : World), listed.size = ops.size → runList P call ops (remOps pl ops listed) st = some s → Rel w0 st a w → Region.ready .any ops listed = [] → Q .normal a w := by
    intro listed st a w hsz hrun hr hrd
    have hrem : remIdx ops.size listed = [] := by
      cases hc : remIdx ops.size listed with
      | nil => rfl
      | cons i rest =>
        exfalso
        have hi := (mem_remIdx (n := ops.size) (i := i) (listed := listed)).1 (by rw [hc]; simp)
        obtain ⟨pre, post, h1, _, h3⟩ := remIdx_split hi.1 hi.2 hsz
        have hpre : pre = [] := by
          cases pre with
          | nil => rfl
          | cons j pre =>
            rw [h1] at hc
            simp only [List.cons_append, List.cons.injEq] at hc
            have := (h3 j (by simp)).1
            omega
        subst hpre
        have hmin : ∀ j, j < i → listed.getD j true = true := by
          intro j hj
          cases hjl : listed.getD j true with
          | true => rfl
          | false =>
            have hm : j ∈ remIdx ops.size listed := mem_remIdx.2 ⟨by omega, hjl⟩
            rw [h1] at hm
            simp only [List.nil_append, List.mem_cons] at hm
            obtain ⟨pre2, post2, g1, _, g3⟩ := remIdx_split (n := ops.size) (i := j) (listed := listed) (by omega) hjl hsz
            rw [h1] at g1
            cases pre2 with
            | nil => simp only [List.nil_append, List.cons.injEq] at g1; omega
            | cons q pre2 =>
              simp only [List.nil_append, List.cons_append, List.cons.injEq] at g1
              have := (g3 q (by simp)).1
              omega
        have hin : i ∈ Region.ready .any ops listed := by
          rw [mem_ready]
          have hio : ops[i]? = some (ops[i]'hi.1) := Array.getElem?_eq_getElem hi.1
          refine ⟨hi.2, _, hio, ?_⟩
          intro e he hb
          have := okEdges_spec _ 0 hok.2 i _ (by rw [Array.getElem?_toList]; exact hio) e he hb
          exact getD_ft hsz (by omega) (hmin _ (by omega))
        rw [hrd] at hin
        cases hin
    unfold remOps at hrun
    rw [hrem] at hrun
    simp only [List.filterMap_nil, runList, Option.some.injEq] at hrun
    subst hrun
    exact hQ a w hr
  intro fuel
  induction fuel with
  | zero =>
    intro listed st a w hsz _ hf hrun hr
    have hrd : Region.ready .any ops listed = [] := by
      cases hc : Region.ready .any ops listed with
      | nil => rfl
      | cons i rest =>
        exfalso
        have hin : i ∈ Region.ready .any ops listed := by rw [hc]; simp
        rw [mem_ready] at hin
        obtain ⟨hl, o, ho, _⟩ := hin
        have : i ∈ remIdx ops.size listed := mem_remIdx.2 ⟨(Array.getElem?_eq_some_iff.1 ho).1, hl⟩
        have h0 : remIdx ops.size listed = [] := List.eq_nil_of_length_eq_zero (by omega)
        rw [h0] at this
        cases this
    exact ⟨hrd, none_left listed st a w hsz hrun hr hrd⟩
  | succ fuel ih =>
    intro listed st a w hsz hdown hf hrun hr
    refine ⟨none_left listed st a w hsz hrun hr, fun i hi => ?_⟩
    rw [mem_ready] at hi
    obtain ⟨hl, o, ho, hed⟩ := hi
    have hio := (Array.getElem?_eq_some_iff.1 ho).1
    obtain ⟨pre, post, h1, h2, h3⟩ := remIdx_split hio hl hsz
    have hyo' : ops.toList[i]? = some o := by rw [Array.getElem?_toList]; exact ho
    obtain ⟨y, hy⟩ : ∃ y, pl[i]? = some y := by
      have := hpl i
      rw [hyo'] at this
      cases hp : pl[i]? with
      | none => rw [hp] at this; cases this
      | some y => exact ⟨y, rfl⟩
    obtain ⟨y1, py⟩ := y
    have hy1 : y1 = o := by
      have := hpl i
      rw [hyo', hy] at this
      simpa using this
    subst hy1
    obtain ⟨hmi, hml⟩ := masks_spec (ops := ops) (L := fun k => listed.getD k false = true) hdown ops.toList [] (fun i => by simp) (fun k o hk => by simp at hk)
    simp only [List.length_nil, Nat.zero_add, Array.length_toList] at hml
    unfold remOps at hrun
    rw [h1, List.filterMap_append, List.filterMap_cons_some hy] at hrun
    obtain ⟨r0, hr0⟩ := hr
    obtain ⟨s1, k1, k2⟩ := front (pre.filterMap (pl[·]?)) st hr0.2.2.1 (fun x hx => by
      obtain ⟨j, hj, hjo⟩ := List.mem_filterMap.1 hx
      obtain ⟨hji, hjl⟩ := h3 j hj
      refine ⟨?_, fun hx2 hy2 => hplt j i x (y1, py) hji hjo hy hx2 hy2⟩
      have hmj : (masks [] ops.toList)[j]? = some ((masks [] ops.toList)[j]'(by omega)) := List.getElem?_eq_getElem (by omega)
      have hmi2 : (masks [] ops.toList)[i]? = some ((masks [] ops.toList)[i]'(by omega)) := List.getElem?_eq_getElem (by omega)
      refine okAll_spec _ 0 hok.1 j i (x, (masks [] ops.toList)[j]'(by omega)) ((y1, py), (masks [] ops.toList)[i]'(by omega)) hji (List.getElem?_zip_eq_some.2 ⟨hjo, hmj⟩) (List.getElem?_zip_eq_some.2 ⟨hy, hmi2⟩) ?_
      cases he : ((masks [] ops.toList)[i]'(by omega)).testBit (0 + j) with
      | false => rfl
      | true =>
        exfalso
        rw [Nat.zero_add] at he
        have hq := hmi i y1 (by omega) ho hed j (by rw [List.getD_eq_getElem?_getD, hmi2]; exact he)
        have hj2 : j < listed.size := by omega
        simp only [Array.getD_eq_getD_getElem?, Array.getElem?_eq_getElem hj2, Option.getD_some] at hq hjl
        rw [hq] at hjl
        cases hjl) hrun
    refine stepG_sound hcall ho k1 ⟨r0, hr0⟩ fun a' w' hr' => ?_
    refine ih _ s1 a' w' (by simpa using hsz) ?_ ?_ ?_ hr'
    · intro k o' hk hlk e he hb
      by_cases hki : k = i
      · subst hki
        rw [ho] at hk
        simp only [Option.some.injEq] at hk
        subst hk
        exact getD_set_true (hed e he hb)
      · rw [getD_set_ne false (fun e => hki e.symm)] at hlk
        exact getD_set_true (hdown k o' hk hlk e he hb)
    · rw [h2]; rw [h1] at hf; simp at hf ⊢; omega
    · unfold remOps; rw [h2, List.filterMap_append]; exact k2

theorem remIdx_all (n : Nat) : remIdx n (Array.replicate n false) = List.range n := by
  unfold remIdx
  rw [List.filter_eq_self]
  intro i hi
  have := List.mem_range.1 hi
  simp [Array.getD_eq_getD_getElem?, this]

theorem remOps_all (pl : List (Oper × Option Nat)) (ops : Array Oper) (hl : pl.length = ops.size) : remOps pl ops (Array.replicate ops.size false) = pl := by
  unfold remOps
  rw [remIdx_all]
  have : ∀ (l : List (Oper × Option Nat)), (List.range l.length).filterMap (l[·]?) = l := by
    intro l
    induction l with
    | nil => rfl
    | cons x l ih =>
      rw [List.length_cons, List.range_succ_eq_map, List.filterMap_cons]
      simp only [List.getElem?_cons_zero, List.filterMap_map]
      congr 1
  have h := this pl
  rw [hl] at h
  exact h

theorem region_sound {P : Program} (hm : P.follows .mixedOrders = true) {call : FuncId → List Value → Option Value} (hcall : CallOk P call) {ops : Array Oper} {id : Nat} {draw : Bool} {w0 : World} {st s : St} {a : Act} {w : World} (hok : (!draw || okDraw ops (places draw st.tmps [] st.mem.length ops.toList)) = true) {Q : Exit → Act → World → Prop}
    (hrun : runList P call ops (places draw st.tmps [] st.mem.length ops.toList) ⟨st.tmps, room st.mem ops.toList⟩ = some s) (hQ : ∀ a w, Rel w0 s a w → Q .normal a w) (hr : Rel w0 st a w) : (Code.region id ops draw).wp P Q a w := by
  have hr' : Rel w0 ⟨st.tmps, room st.mem ops.toList⟩ a w := by
    obtain ⟨r, h1, h2, h3, h4⟩ := hr
    exact ⟨r, h1, h2, fun v hv => inMem_room (h3 v hv), h4.room _⟩
  have hpl := places_get draw st.tmps ops.toList [] st.mem.length
  have hlen := places_length draw st.tmps ops.toList [] st.mem.length
  have hsz : ops.toList.length = ops.size := Array.length_toList
  rw [hsz] at hlen
  cases draw with
  | false =>
    refine wp_region ?_
    have := runList_sound hcall hQ _ 0 _ a w (fun j => by
      rw [hpl j, hlen]
      split
      · simp
      · rename_i hj; rw [List.getElem?_eq_none (by simp; omega)]) hrun hr'
    rw [hlen, ← List.range_eq_range'] at this
    exact this
  | true =>
    refine wp_region_any hm ?_
    refine wpAny_ok hcall hpl (fun j i x y => places_lt true st.tmps ops.toList [] st.mem.length j i x y) (by simpa using hok) hQ ops.size _ ⟨st.tmps, room st.mem ops.toList⟩ a _ (by simp) (fun k o hk hl => ?_) (by rw [remIdx_all]; simp) (by rw [remOps_all _ _ hlen]; exact hrun) ?_
    · exfalso
      have := (Array.getElem?_eq_some_iff.1 hk).1
      simp [Array.getD_eq_getD_getElem?, this] at hl
    · obtain ⟨r, h1, h2, h3, h4⟩ := hr'
      exact ⟨r, h1, h2, h3, h4.below.drew, h4.blk, h4.inj⟩

end Go.Proofs.Ytagnkjdobkdhmaa.Vx
