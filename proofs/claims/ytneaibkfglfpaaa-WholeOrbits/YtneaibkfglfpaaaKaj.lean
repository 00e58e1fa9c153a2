/-
  facetref05.DocCheck and DocFind, told. Nothing here is trusted.
-/
import Derived.Test.YtneaibkfglfpaaaKai
import Derived.Test.YtneaibkfglfpaaaKaf
import Derived.Test.YtneaibkfglfpaaaKae

namespace Go.Proofs.Ytneaibkfglfpaaa
open Go Vx
def r1 (own : Bool) (N : Nat) (X : List O3) (e : Int) : Option (Value × Mem) := some (vI e, [.rows own true 12 N (opRow X)])
def ocT (n : Nat) (row : Nat → List Value) : Bool := Nat.beq n n && (okOps n row && (decide ((1 : Int) ≤ 1) && decide ((n : Int) ≤ 4611686018427387904)))
def cuT (n : Nat) (row : Nat → List Value) : Bool := Nat.beq n n && (okOps n row && (Nat.beq n n && (decide ((n : Int) = (n : Int)) && (decide ((0 : Int) ≤ 0) && decide ((n : Int) ≤ 4611686018427387904)))))
def pT (n : Nat) (row : Nat → List Value) : Bool := Nat.beq n n && (okOps n row && decide (n ≤ 4611686018427387904))
def dckEnd (own : Bool) (N : Nat) (X : List O3) : Option (Value × Mem) := gd (cuT N (opRow X)) (match inAll (opsOf N (opRow X)) ((opsOf N (opRow X)).drop (0 : Int).toNat) with
  | true => r1 own N (opsOf N (opRow X)) 0
  | false => r1 own N (opsOf N (opRow X)) 5)
def dckMid (own : Bool) (N : Nat) (X : List O3) : Option (Value × Mem) := gd (pT N (opRow X)) (match decide (placeI (opsOf N (opRow X)) O3.one < 0) with
  | true => r1 own N (opsOf N (opRow X)) 5
  | false => dckEnd own N (opsOf N (opRow X)))
def dckOrd (own : Bool) (N : Nat) (X : List O3) : Option (Value × Mem) := gd (ocT N (opRow X)) (match ordF (atO (opsOf N (opRow X)) (1 - 1)) ((opsOf N (opRow X)).drop (1 : Int).toNat) with
  | true => dckMid own N (opsOf N (opRow X))
  | false => r1 own N (opsOf N (opRow X)) 5)
theorem dckE0 : exT ((Ccu Try.prog).at 22) 60 Try.f22 [.slice none 0 0] [] [] = some (vI 5, []) := by kernel_rfl
theorem dckE1 (own : Bool) (N : Nat) (ls : List O3) : exT ((Ccu Try.prog).at 22) 60 Try.f22 [.slice (some ⟨0, 0, some 0⟩) N 12] [.rows own true 12 N (opRow ls)] [.fix 0] =
    (match decide ((N : Int) > 192) with
    | true => r1 own N ls 2
    | false => gd (pT N (opRow ls)) (match leastL (opsOf N (opRow ls)) 0 != 0 with
      | true => r1 own N (opsOf N (opRow ls)) (leastL (opsOf N (opRow ls)) 0)
      | false => dckOrd own N (opsOf N (opRow ls)))) := by kernel_rfl
/-- What the document's Check answers. -/
def dckI (X : List O3) : Int := match decide ((X.length : Int) > 192) with
  | true => 2
  | false => match leastL X 0 != 0 with
    | true => leastL X 0
    | false => match ordF (atO X 0) (X.drop 1) with
      | true => match decide (placeI X O3.one < 0) with
        | true => 5
        | false => match inAll X X with
          | true => 0
          | false => 5
      | false => 5
theorem dckE (own : Bool) (N : Nat) (ls : List O3) (hl : ls.length = N) (hN : N ≤ 4611686018427387904) : exT ((Ccu Try.prog).at 22) 60 Try.f22 [.slice (some ⟨0, 0, some 0⟩) N 12] [.rows own true 12 N (opRow ls)] [.fix 0] = some (vI (dckI ls), [.rows own true 12 N (opRow ls)]) := by
  have t1 : pT N (opRow ls) = true := by unfold pT; rw [Nat.beq_refl, okOps_opRow]; simp; omega
  have t2 : ocT N (opRow ls) = true := by unfold ocT; rw [Nat.beq_refl, okOps_opRow]; simp; omega
  have t3 : cuT N (opRow ls) = true := by unfold cuT; rw [Nat.beq_refl, okOps_opRow]; simp; omega
  rw [dckE1]
  unfold dckOrd dckMid dckEnd dckI r1
  simp only [opsOf_row hl, t1, t2, t3, gd_true, Int.toNat_zero, List.drop_zero, hl, show ((1 : Int) - 1) = 0 from rfl, show (1 : Int).toNat = 1 from rfl]
  cases decide ((N : Int) > 192) with
  | true => rfl
  | false =>
    simp only
    cases leastL ls 0 != 0 with
    | true => rfl
    | false =>
      simp only
      cases ordF (atO ls 0) (ls.drop 1) with
      | false => rfl
      | true =>
        simp only
        cases decide (placeI ls O3.one < 0) with
        | true => rfl
        | false =>
          simp only
          cases inAll ls ls <;> rfl
theorem ordF_sorted : ∀ (l : List O3) (p : O3), ordF p l = true ↔ (p :: l).Pairwise fun a b => lexI a.l b.l < 0
  | [], p => by simp [ordF]
  | x :: l, p => by
    simp only [ordF]
    by_cases h : lexI p.l x.l ≥ 0
    · rw [decide_eq_true h]
      constructor
      · intro hf; cases hf
      · intro hp
        rw [List.pairwise_cons] at hp
        have := hp.1 x (by simp)
        omega
    · rw [decide_eq_false h]
      simp only
      rw [ordF_sorted l x]
      constructor
      · intro hp
        rw [List.pairwise_cons]
        refine ⟨fun y hy => ?_, hp⟩
        rcases List.mem_cons.1 hy with rfl | hy
        · omega
        · have h1 := (List.pairwise_cons.1 hp).1 y hy
          have h2 := lexI_trans (l := p.l) (m := x.l) (n := y.l) rfl rfl (by omega) (by omega)
          by_cases h0 : lexI p.l y.l = 0
          · have e := (lexI_zero (l := p.l) (m := y.l) rfl).1 h0
            rw [e, lexI_neg x.l y.l] at h
            omega
          · omega
      · intro hp
        exact (List.pairwise_cons.1 hp).2
theorem placeI_lt {xs : List O3} {o : O3} : decide (placeI xs o < 0) = !decide (o ∈ xs) := by
  have h := placeI_mem (xs := xs) (o := o)
  rw [← h]
  by_cases h1 : placeI xs o < 0
  · rw [decide_eq_true h1, decide_eq_false (by omega)]; rfl
  · rw [decide_eq_false h1, decide_eq_true (by omega)]; rfl
theorem inMul_iff {X : List O3} {a : O3} (ha : a.ck = 0) : ∀ (l : List O3), (∀ b ∈ l, b.ck = 0) → (inMul a X l = true ↔ ∀ b ∈ l, a.mul b ∈ X)
  | [], _ => by simp [inMul]
  | b :: l, h => by
    have hb := h b (by simp)
    simp only [inMul]
    rw [O3.mul5_eq ha hb, placeI_lt]
    by_cases hm : a.mul b ∈ X
    · simp only [decide_eq_true hm, Bool.not_true]
      rw [inMul_iff ha l fun x hx => h x (by simp [hx])]
      simp [hm]
    · simp only [decide_eq_false hm, Bool.not_false]
      constructor
      · intro hf; cases hf
      · intro hf; exact absurd (hf b (by simp)) hm
theorem inAll_iff {X : List O3} (hX : ∀ b ∈ X, b.ck = 0) : ∀ (l : List O3), (∀ b ∈ l, b.ck = 0) → (inAll X l = true ↔ ∀ a ∈ l, ∀ b ∈ X, a.mul b ∈ X)
  | [], _ => by simp [inAll]
  | a :: l, h => by
    have ha := h a (by simp)
    simp only [inAll]
    cases hm : inMul a X X with
    | true =>
      have h1 := (inMul_iff ha X hX).1 hm
      simp only
      rw [inAll_iff hX l fun x hx => h x (by simp [hx])]
      constructor
      · intro hf x hx
        rcases List.mem_cons.1 hx with rfl | hx
        · exact h1
        · exact hf x hx
      · intro hf x hx; exact hf x (by simp [hx])
    | false =>
      simp only
      constructor
      · intro hf; cases hf
      · intro hf
        have := (inMul_iff ha X hX).2 (hf a (by simp))
        rw [hm] at this; cases this
def StrictO (l : List O3) : Prop := l.Pairwise fun a b => lexI a.l b.l < 0
theorem strict_nodup {l : List O3} (h : StrictO l) : l.Nodup := h.imp fun {a b} hab e => by
  subst e
  have := (lexI_zero (l := a.l) (m := a.l) rfl).2 rfl
  omega
theorem strict_sorted {l : List O3} (h : StrictO l) : SortedO l := h.imp fun hab => by omega
theorem sorted_strict {l : List O3} (h : SortedO l) (hn : l.Nodup) : StrictO l := by
  unfold SortedO at h
  unfold StrictO
  unfold List.Nodup at hn
  refine (h.and hn).imp fun {a b} hab => ?_
  have := hab.1
  by_cases h0 : lexI a.l b.l = 0
  · exact absurd (O3.l_inj ((lexI_zero (l := a.l) (m := b.l) rfl).1 h0)) hab.2
  · omega
theorem smeL_iff : ∀ {l m : List O3}, l.length = m.length → (smeL l m = true ↔ l = m)
  | [], [], _ => by simp [smeL]
  | x :: l, y :: m, h => by
    simp only [smeL]
    have hl : l.length = m.length := by simpa using h
    cases he : x.eqB y with
    | true =>
      simp only [Bool.not_true]
      rw [smeL_iff hl, O3.eqB_iff.1 he]
      simp
    | false =>
      simp only [Bool.not_false]
      have := O3.eqB_false.1 he
      simp [this]
theorem sameB_iff {l m : List O3} : sameB l m = true ↔ l = m := by
  unfold sameB
  rw [Bool.and_eq_true, beq_iff_eq]
  constructor
  · rintro ⟨h1, h2⟩
    exact (smeL_iff (by omega)).1 h2
  · rintro rfl; exact ⟨rfl, smeL_refl l⟩
theorem grp_self {X : List O3} (hn : X.Nodup) (hl : X.length ≤ 192) (hck : ∀ o ∈ X, o.ck = 0) (h1 : O3.one ∈ X) (hm : ∀ a ∈ X, ∀ b ∈ X, a.mul b ∈ X) : IsGrp X X := by
  refine ⟨hn, hl, fun g => ⟨fun h => Gen.of (all_inv hck) h, fun h => ?_⟩, hck⟩
  induction h with
  | one => exact h1
  | step _ hx ih => exact hm _ ih _ hx
theorem dck_chk (X : List O3) : dckI X = chkI X := by
  unfold dckI
  by_cases h : (X.length : Int) > 192
  · have hc : ckMaps X = 2 := by unfold ckMaps; rw [if_pos h]
    have h1 : clsOk X = false := by unfold clsOk; rw [hc]; rfl
    unfold chkI clsErr
    rw [decide_eq_true h, h1, hc]; rfl
  · have hc : ckMaps X = leastL X 0 := by unfold ckMaps; rw [if_neg h]
    rw [decide_eq_false h]
    simp only
    by_cases h0 : leastL X 0 = 0
    · have hck := (leastL_zero h0).2
      rw [h0]
      simp only [bne_self_eq_false]
      have hk0 : ckMaps X = 0 := by rw [hc, h0]
      -- a group in order?
      have key : chkI X = 0 ↔ (ordF (atO X 0) (X.drop 1) = true ∧ O3.one ∈ X ∧ inAll X X = true) := by
        have hord : ordF (atO X 0) (X.drop 1) = true ↔ StrictO X := by
          cases X with
          | nil => simp [ordF, StrictO]
          | cons x l =>
            rw [ordF_sorted]
            rfl
        rw [hord, inAll_iff hck X hck]
        constructor
        · intro h
          unfold chkI at h
          cases hq : clsOk X with
          | false => rw [hq] at h; exact absurd h (clsErr_ne X)
          | true =>
            rw [hq] at h
            simp only at h
            cases hs : sameB (clsG X) X with
            | false => rw [hs] at h; cases h
            | true =>
              have e := sameB_iff.1 hs
              obtain ⟨_, _, hg⟩ := clsOk_spec hq
              have hperm : X.Perm (clG0 X [O3.one] es1).1 := by
                have := sortO_perm (clG0 X [O3.one] es1).1
                rw [show sortO (clG0 X [O3.one] es1).1 = clsG X from rfl, e] at this
                exact this
              have hgr := hg.grp (all_inv hck)
              have hsor : SortedO X := by rw [← e]; exact sortO_sorted _
              refine ⟨sorted_strict hsor (hperm.nodup_iff.2 hg.1), hperm.mem_iff.2 hgr.one, fun a ha b hb => hperm.mem_iff.2 (hgr.mul a (hperm.mem_iff.1 ha) b (hperm.mem_iff.1 hb))⟩
        · rintro ⟨h1, h2, h3⟩
          have hg := grp_self (strict_nodup h1) (by omega) hck h2 h3
          have hq : clsOk X = true := by
            unfold clsOk
            rw [hk0]
            rcases clR_spec hck with ⟨r, k1, _⟩ | ⟨_, k2⟩
            · rw [k1]; rfl
            · exact absurd k2 hg.not_bad
          obtain ⟨_, _, hg2⟩ := clsOk_spec hq
          have e : clsG X = X := sorted_one (sortO_sorted _) (strict_sorted h1) ((sortO_perm _).trans (hg2.perm hg))
          unfold chkI
          rw [hq]
          simp only
          rw [e, sameB_refl]; rfl
      have five : chkI X = 0 ∨ chkI X = 5 := by
        unfold chkI clsErr
        rw [hk0]
        cases clsOk X with
        | false => right; rfl
        | true =>
          simp only
          cases sameB (clsG X) X with
          | true => left; rfl
          | false => right; rfl
      rw [placeI_lt]
      cases ho : ordF (atO X 0) (X.drop 1) with
      | false =>
        rcases five with e | e
        · rw [ho] at key; have := (key.1 e).1; cases this
        · rw [e]
      | true =>
        simp only
        by_cases h1 : O3.one ∈ X
        · rw [decide_eq_true h1]
          simp only [Bool.not_true]
          cases hi : inAll X X with
          | true => rw [key.2 ⟨ho, h1, hi⟩]
          | false =>
            rcases five with e | e
            · rw [hi] at key; have := (key.1 e).2.2; cases this
            · rw [e]
        · rw [decide_eq_false h1]
          simp only [Bool.not_false]
          rcases five with e | e
          · exact absurd (key.1 e).2.1 h1
          · rw [e]
    · have h1 : clsOk X = false := by unfold clsOk; rw [hc, (bif_beq h0).1]; rfl
      rw [(bif_beq h0).2]
      unfold chkI clsErr
      rw [h1, hc, (bif_beq h0).1]; rfl
def dckF : List Value → Mem → Option (Ans (Value × Mem))
  | [.slice none 0 0], [] => some (.out (vI 5, []))
  | [.slice (some ⟨0, 0, some 0⟩) N 12], [.rows own true 12 N2 row] => some (.br (Nat.beq N N2 && (okOps N row && decide (N ≤ 4611686018427387904))) (.out (vI (chkI (opsOf N row)), [.rows own true 12 N (opRow (opsOf N row))])) .fail)
  | _, _ => none
def Cdk (P : Program) : Cx := (Ccu P).addF 22 dckF
theorem okdk : CxOk (Cdk Try.prog) := Cx.addF_ok okcu fun args m ans v m' h hr => by
  unfold dckF at h
  split at h
  · simp only [Option.some.injEq] at h
    subst h
    simp only [Ans.res, Option.some.injEq, Prod.mk.injEq] at hr
    obtain ⟨rfl, rfl⟩ := hr
    exact exT_ok okcu Try.func22 (by kernel_rfl) dckE0
  · rename_i N own N2 row
    simp only [Option.some.injEq] at h
    subst h
    rcases Ans.br_some hr with ⟨hc, hr1⟩ | ⟨_, hr1⟩
    rotate_left
    · simp [Ans.res] at hr1
    clear hr
    simp only [Bool.and_eq_true, decide_eq_true_eq] at hc
    obtain ⟨c1, c2, c3⟩ := hc
    have c1 := beq_len c1
    subst c1
    simp only [Ans.res, Option.some.injEq, Prod.mk.injEq] at hr1
    obtain ⟨rfl, rfl⟩ := hr1
    rw [← dck_chk]
    exact (exT_ok okcu Try.func22 (by kernel_rfl) (dckE own N (opsOf N row) (opsOf_length N row) c3)).like ⟨.rows (ops_like c2), trivial⟩
  · cases h
end Go.Proofs.Ytneaibkfglfpaaa


namespace Go.Proofs.Ytneaibkfglfpaaa.Vx
open Go
/-- The cells of a list's maps. -/
def mtRow (l : List M3) : Nat → List Value := fun i => ((l[i]?).getD M3.zero).cells
/-- One map behind others. -/
theorem catR_mts (xs : List M3) (o : M3) (i : Nat) (hi : i < xs.length + 1) : catR xs.length (mtRow xs) (chop 9 0 o.cells) i = mtRow (xs ++ [o]) i := by
  unfold catR mtRow
  by_cases h : i < xs.length
  · rw [show Nat.blt i xs.length = true by simpa [Nat.blt_eq] using h, List.getElem?_append_left h]
  · have : i = xs.length := by omega
    subst this
    rw [blt_ff (Nat.lt_irrefl _)]
    simp only [Nat.sub_self]
    rw [List.getElem?_append_right (Nat.le_refl _)]
    simp only [Nat.sub_self, List.getElem?_cons_zero, Option.getD_some]
    rfl
theorem like_nrmts {own pl : Bool} {n : Nat} {xs : List M3} (hx : xs.length = n) (o : M3) : Like (.rows own pl 9 (n + 1) (catR n (mtRow xs) (chop 9 0 o.cells))) (.rows own pl 9 (n + 1) (mtRow (xs ++ [o]))) := by
  subst hx
  exact .rows fun i hi => catR_mts xs o i hi
theorem like_chopmts {own pl : Bool} (o : M3) : Like (.rows own pl 9 1 (chop 9 0 o.cells)) (.rows own pl 9 1 (mtRow [o])) := .rows fun i hi => by
  have : i = 0 := by omega
  subst this
  rfl
/-- The cells of a list's maps. -/
def vcRow (l : List V3) : Nat → List Value := fun i => ((l[i]?).getD V3.zero).cells
/-- One map behind others. -/
theorem catR_vcs (xs : List V3) (o : V3) (i : Nat) (hi : i < xs.length + 1) : catR xs.length (vcRow xs) (chop 3 0 o.cells) i = vcRow (xs ++ [o]) i := by
  unfold catR vcRow
  by_cases h : i < xs.length
  · rw [show Nat.blt i xs.length = true by simpa [Nat.blt_eq] using h, List.getElem?_append_left h]
  · have : i = xs.length := by omega
    subst this
    rw [blt_ff (Nat.lt_irrefl _)]
    simp only [Nat.sub_self]
    rw [List.getElem?_append_right (Nat.le_refl _)]
    simp only [Nat.sub_self, List.getElem?_cons_zero, Option.getD_some]
    rfl
theorem like_nrvcs {own pl : Bool} {n : Nat} {xs : List V3} (hx : xs.length = n) (o : V3) : Like (.rows own pl 3 (n + 1) (catR n (vcRow xs) (chop 3 0 o.cells))) (.rows own pl 3 (n + 1) (vcRow (xs ++ [o]))) := by
  subst hx
  exact .rows fun i hi => catR_vcs xs o i hi
theorem like_chopvcs {own pl : Bool} (o : V3) : Like (.rows own pl 3 1 (chop 3 0 o.cells)) (.rows own pl 3 1 (vcRow [o])) := .rows fun i hi => by
  have : i = 0 := by omega
  subst this
  rfl
end Go.Proofs.Ytneaibkfglfpaaa.Vx


namespace Go.Proofs.Ytneaibkfglfpaaa
open Go Vx
/-- What a loop appends, place by place. -/
def bld {α : Type} (t : Int → Bool) (e : Int → α) : Nat → Int → List α → List α
  | 0, _, ms => ms
  | c + 1, i, ms => match t i with
    | true => bld t e c (i + 1) (ms ++ [e i])
    | false => bld t e c (i + 1) ms
def shOk {α : Type} (sh : Sh) (ms : List α) : Prop := match sh with
  | .b => ms ≠ []
  | _ => ms = []
def shOf1 {α : Type} (ms : List α) : Sh := match ms with
  | [] => .a
  | _ :: _ => .b
theorem shOf1_ok {α : Type} {sh : Sh} {ms : List α} (h : shOk sh ms) : shOf1 ms = sh.next := by
  cases sh with
  | b => cases ms with
    | nil => exact absurd rfl h
    | cons m ms => rfl
  | e => have : ms = [] := h; subst this; rfl
  | a => have : ms = [] := h; subst this; rfl
def nilL {α : Type} : List α → Bool
  | [] => true
  | _ :: _ => false
theorem nilL_t {α : Type} {l : List α} (h : nilL l = true) : shOf1 l = .a := by cases l with
  | nil => rfl
  | cons x l => cases h
theorem nilL_f {α : Type} {l : List α} (h : nilL l = false) : shOf1 l = .b := by cases l with
  | nil => cases h
  | cons x l => rfl
def room9 (k : Nat) : Bool := decide (k * 72 ≤ 2 ^ 47) && decide (k ≤ 2 ^ 62)
def room3 (k : Nat) : Bool := decide (k * 24 ≤ 2 ^ 47) && decide (k ≤ 2 ^ 62)
theorem room9_ok {k : Nat} (h : k ≤ 2000000) : room9 k = true := by unfold room9; simp; omega
theorem room3_ok {k : Nat} (h : k ≤ 2000000) : room3 k = true := by unfold room3; simp; omega
def rotT (xs : List O3) (i : Int) : Bool := match i == 0 with
  | true => true
  | false => !((atO xs i).r.eqB (atO xs (i - 1)).r)
def ceX (P : Program) : Code := (loopsOf P 19 7).headD .skip
theorem ceX_eq : loopsOf Try.prog 19 7 = [ceX Try.prog] := by kernel_rfl
def ceV (sh : Sh) (k : Nat) : Value := match sh with
  | .b => .slice (some ⟨2, 0, some 0⟩) k 3
  | _ => .slice none 0 0
def ceM (sh : Sh) (own : Bool) (n : Nat) (xs : List O3) (k : Nat) (r : Nat → List Value) : Mem := match sh with
  | .e => [.rows own true 12 n (opRow xs), .cells true 0 O3.one.cells]
  | .a => [.rows own true 12 n (opRow xs), .cells true 0 O3.one.cells, .no]
  | .b => [.rows own true 12 n (opRow xs), .cells true 0 O3.one.cells, .rows true true 3 k r]
def ceH (sh : Sh) (own : Bool) (n : Nat) (xs : List O3) (k : Nat) (r : Nat → List Value) (i : Int) : St := stOf 33 [(2, .slice none 0 0), (3, vI 0), (5, .pointer (some ⟨1, 0, none⟩)), (6, ceV sh k), (15, .slice (some ⟨0, 0, some 0⟩) n 12), (16, vI n), (17, vI i)] (ceM sh own n xs k r)
def ceE (sh : Sh) (own : Bool) (n : Nat) (xs : List O3) (k : Nat) (r : Nat → List Value) : St := stOf 33 [(2, .slice none 0 0), (3, vI 0), (6, ceV sh k)] (ceM sh own n xs k r)
theorem ceRe (own : Bool) (n : Nat) (xs : List O3) (k : Nat) (ms : List V3) (i : Int) : roundR ((Cdk Try.prog).into 19 1) 40 (ceX Try.prog) [2, 3, 5, 6, 15, 16, 17] [2, 3, 6] [.fix 0, .fix 1, .slot 6] [.fix 0, .fix 1, .slot 6] (ceH .e own n xs k (vcRow ms) i) =
    (match decide (i < (n : Int)) with
    | true => match boundsI i n with
      | true => match (atO xs i).r.eqB M3.one with
        | true => some (.normal, ceH .b own n xs 1 (chop 3 0 ((atO xs i).t).cells) (W (i + 1)))
        | false => some (.normal, ceH .a own n xs k (vcRow ms) (W (i + 1)))
      | false => none
    | false => some (.exit 0, ceE .a own n xs k (vcRow ms))) := by kernel_rfl
theorem ceRa (own : Bool) (n : Nat) (xs : List O3) (k : Nat) (ms : List V3) (i : Int) : roundR ((Cdk Try.prog).into 19 1) 40 (ceX Try.prog) [2, 3, 5, 6, 15, 16, 17] [2, 3, 6] [.fix 0, .fix 1, .slot 6] [.fix 0, .fix 1, .slot 6] (ceH .a own n xs k (vcRow ms) i) =
    (match decide (i < (n : Int)) with
    | true => match boundsI i n with
      | true => match (atO xs i).r.eqB M3.one with
        | true => some (.normal, ceH .b own n xs 1 (chop 3 0 ((atO xs i).t).cells) (W (i + 1)))
        | false => some (.normal, ceH .a own n xs k (vcRow ms) (W (i + 1)))
      | false => none
    | false => some (.exit 0, ceE .a own n xs k (vcRow ms))) := by kernel_rfl
theorem ceRb (own : Bool) (n : Nat) (xs : List O3) (k : Nat) (ms : List V3) (i : Int) : roundR ((Cdk Try.prog).into 19 1) 40 (ceX Try.prog) [2, 3, 5, 6, 15, 16, 17] [2, 3, 6] [.fix 0, .fix 1, .slot 6] [.fix 0, .fix 1, .slot 6] (ceH .b own n xs k (vcRow ms) i) =
    (match decide (i < (n : Int)) with
    | true => match boundsI i n with
      | true => match (atO xs i).r.eqB M3.one with
        | true => gd (Nat.beq k k && room3 (k + 1)) (some (.normal, ceH .b own n xs (k + 1) (catR k (vcRow ms) (chop 3 0 ((atO xs i).t).cells)) (W (i + 1))))
        | false => some (.normal, ceH .b own n xs k (vcRow ms) (W (i + 1)))
      | false => none
    | false => some (.exit 0, ceE .b own n xs k (vcRow ms))) := by kernel_rfl
structure ceG where
  (sh : Sh) (own : Bool) (n : Nat) (xs : List O3) (k : Nat) (ms : List V3) (i : Int)
def ceHg (g : ceG) : St := ceH g.sh g.own g.n g.xs g.k (vcRow g.ms) g.i
def ceI (g : ceG) : Prop := g.xs.length = g.n ∧ g.n ≤ 1000 ∧ g.ms.length = g.k ∧ (g.k : Int) ≤ g.i ∧ 0 ≤ g.i ∧ g.i ≤ (g.n : Int) ∧ shOk g.sh g.ms
def ceQ (g : ceG) : List V3 := bld (fun i => (atO g.xs i).r.eqB M3.one) (fun i => (atO g.xs i).t) (g.n - g.i).toNat g.i g.ms
def ceO (g : ceG) : Exit × St := (.exit 0, ceE (shOf1 (ceQ g)) g.own g.n g.xs (ceQ g).length (vcRow (ceQ g)))
theorem ceL (g : ceG) (hg : ceI g) : LoopSem Try.prog 1 (ceX Try.prog) (ceHg g) (ceO g).1 (ceO g).2 := by
  refine loop_rule2 (C := Cdk Try.prog) okdk (f := 19) (B := 1) (loopsOf_in (k := 7) ceX_eq) 40 [2, 3, 5, 6, 15, 16, 17] [2, 3, 6] [.fix 0, .fix 1, .slot 6] [.fix 0, .fix 1, .slot 6] ceHg (fun g => (g.n - g.i).toNat) ceI ceO ?_ g hg
  clear hg g
  rintro ⟨sh, own, n, xs, k, ms, i⟩ hg
  unfold ceI at hg
  simp only at hg
  obtain ⟨h1, h2, h3, h4, h5, h6, h7⟩ := hg
  by_cases hi : i < (n : Int)
  · have hd : decide (i < (n : Int)) = true := by simpa using hi
    have hb : boundsI i n = true := by simp [boundsI, h5, hi]
    have hw : W (i + 1) = i + 1 := W_in (by omega)
    have hs : ((n : Int) - i).toNat = ((n : Int) - (i + 1)).toNat + 1 := by omega
    have hq : ceQ ⟨sh, own, n, xs, k, ms, i⟩ = bld (fun i => (atO xs i).r.eqB M3.one) (fun i => (atO xs i).t) (((n : Int) - (i + 1)).toNat + 1) i ms := by unfold ceQ; simp only [hs]
    have hrm : (Nat.beq k k && room3 (k + 1)) = true := by rw [Nat.beq_refl, room3_ok (by omega)]; rfl
    left
    cases ht : ((atO xs i).r.eqB M3.one) with
    | true =>
      refine ⟨⟨.b, own, n, xs, k + 1, ms ++ [(atO xs i).t], i + 1⟩, ceH .b own n xs (match sh with
        | .b => k + 1
        | _ => 1) (match sh with
        | .b => catR k (vcRow ms) (chop 3 0 ((atO xs i).t).cells)
        | _ => chop 3 0 ((atO xs i).t).cells) (i + 1), ?_, ?_, ?_, by simp only; omega, ?_⟩
      · unfold ceHg; cases sh <;> simp only [ceRe, ceRa, ceRb, hd, hb, hw, ht, hrm, gd_true]
      · cases sh with
        | e => have : ms = [] := h7; subst this; have : k = 0 := h3.symm; subst this; exact ⟨rfl, .refl _, .refl _, like_chopvcs _, trivial⟩
        | a => have : ms = [] := h7; subst this; have : k = 0 := h3.symm; subst this; exact ⟨rfl, .refl _, .refl _, like_chopvcs _, trivial⟩
        | b => exact ⟨rfl, .refl _, .refl _, like_nrvcs h3 _, trivial⟩
      · unfold ceI
        simp only
        exact ⟨h1, h2, by simp [h3], by omega, by omega, by omega, by simp [shOk]⟩
      · unfold ceO
        rw [hq]
        simp only [bld, ht, ceQ]
    | false =>
      refine ⟨⟨sh.next, own, n, xs, k, ms, i + 1⟩, ceH sh.next own n xs k (vcRow ms) (i + 1), ?_, StLike.refl _, ?_, by simp only; omega, ?_⟩
      · unfold ceHg; cases sh <;> simp only [ceRe, ceRa, ceRb, hd, hb, hw, ht, Sh.next]
      · unfold ceI
        simp only
        exact ⟨h1, h2, h3, by omega, by omega, by omega, by cases sh <;> exact h7⟩
      · unfold ceO
        rw [hq]
        simp only [bld, ht, ceQ]
  · have hd : decide (i < (n : Int)) = false := by simpa using hi
    right
    have hq : ceQ ⟨sh, own, n, xs, k, ms, i⟩ = ms := by
      unfold ceQ
      rw [show ((n : Int) - i).toNat = 0 by omega]
      rfl
    refine ⟨ceE sh.next own n xs k (vcRow ms), ?_, ?_, by unfold ceO; simp⟩
    · unfold ceO ceHg
      cases sh with
      | e => simp only [ceRe, hd, Sh.next]
      | a => simp only [ceRa, hd, Sh.next]
      | b => simp only [ceRb, hd, Sh.next]
    · unfold ceO
      rw [hq]
      simp only [h3, shOf1_ok h7]
      exact StLike.refl _
def ceD : Mem → Option (Bool × Nat × (Nat → List Value) × List Value)
  | [.rows own true 12 n2 row, .cells true 0 co] => some (own, n2, row, co)
  | _ => none
theorem ceD_spec {m : Mem} {own : Bool} {n2 : Nat} {row : Nat → List Value} {co : List Value} (h : ceD m = some (own, n2, row, co)) : m = [.rows own true 12 n2 row, .cells true 0 co] := by
  unfold ceD at h
  split at h
  · simp only [Option.some.injEq, Prod.mk.injEq] at h
    obtain ⟨rfl, rfl, rfl, rfl⟩ := h
    rfl
  · cases h
def ceS (st : St) : Option (Ans (Exit × St)) :=
  match Nat.beq st.tmps.length 33, tAt st 2, tAt st 3, tAt st 5, tAt st 6, tAt st 15, tAt st 16, tAt st 17, ceD (thaw (killV st.mem)) with
  | true, some (.slice none 0 0), some (.int .i64 0), some (.pointer (some ⟨1, 0, none⟩)), some (.slice none 0 0), some (.slice (some ⟨0, 0, some 0⟩) n 12), some (.int .i64 ln), some (.int .i64 i), some (own, n2, row, co) => some (.br (Nat.beq n n2 && (okOps n row && (decide (ln = (n : Int)) && (decide (0 = i) && (decide (n ≤ 1000) && (isO co && ((decO co).eqB O3.one))))))) (.br (nilL (bld (fun i => (atO (opsOf n row) i).r.eqB M3.one) (fun i => (atO (opsOf n row) i).t) n 0 [])) (.out (.exit 0, ceE .a own n (opsOf n row) (bld (fun i => (atO (opsOf n row) i).r.eqB M3.one) (fun i => (atO (opsOf n row) i).t) n 0 []).length (vcRow (bld (fun i => (atO (opsOf n row) i).r.eqB M3.one) (fun i => (atO (opsOf n row) i).t) n 0 [])))) (.out (.exit 0, ceE .b own n (opsOf n row) (bld (fun i => (atO (opsOf n row) i).r.eqB M3.one) (fun i => (atO (opsOf n row) i).t) n 0 []).length (vcRow (bld (fun i => (atO (opsOf n row) i).r.eqB M3.one) (fun i => (atO (opsOf n row) i).t) n 0 []))))) .fail)
  | _, _, _, _, _, _, _, _, _ => none
theorem ceK {st : St} {ans : Ans (Exit × St)} {e_ : Exit} {s_ : St} (h : ceS st = some ans) (hr : ans.res = some (e_, s_)) : LoopSem Try.prog 1 (ceX Try.prog) st e_ s_ := by
  unfold ceS at h
  split at h
  rotate_left
  · cases h
  rename_i n ln i own n2 row co hb hs2 hs3 hs5 hs6 hs15 hs16 hs17 hD
  simp only [Option.some.injEq] at h
  subst h
  rcases Ans.br_some hr with ⟨hc, hr1⟩ | ⟨_, hr1⟩
  rotate_left
  · simp [Ans.res] at hr1
  clear hr
  simp only [Bool.and_eq_true, decide_eq_true_eq] at hc
  obtain ⟨c1, c2, c3, c4, c5, d0, d1⟩ := hc
  have c1 := beq_len c1
  subst c1 c3 c4
  have hco : co = O3.one.cells := by rw [isO_spec d0, O3.eqB_iff.1 d1]
  subst hco
  have hmem := ceD_spec hD
  have hI : ceI ⟨.e, own, n, opsOf n row, 0, [], 0⟩ := by
    unfold ceI
    simp only
    exact ⟨opsOf_length n row, c5, rfl, by omega, by omega, by omega, rfl⟩
  have key := ceL _ hI
  have hlike : LikeL (thaw (killV st.mem)) (ceHg ⟨.e, own, n, opsOf n row, 0, [], 0⟩).mem := by
    rw [hmem]
    exact ⟨.rows (ops_like c2), .refl _, trivial⟩
  have key := LoopSem.like (tm := (ceHg ⟨.e, own, n, opsOf n row, 0, [], 0⟩).tmps) (m := thaw (killV st.mem)) key hlike
  have key := LoopSem.fresh key
  have hk : keepL [2, 3, 5, 6, 15, 16, 17] 0 st.tmps = (ceHg ⟨.e, own, n, opsOf n row, 0, [], 0⟩).tmps := by
    have := keep_eq [(2, .slice none 0 0), (3, vI 0), (5, .pointer (some ⟨1, 0, none⟩)), (6, .slice none 0 0), (15, .slice (some ⟨0, 0, some 0⟩) n 12), (16, vI n), (17, vI 0)] st.tmps 0 (by
      intro x hx _
      simp only [List.mem_cons, List.not_mem_nil, or_false] at hx
      rcases hx with rfl | rfl | rfl | rfl | rfl | rfl | rfl
      · exact hs2
      · exact hs3
      · exact hs5
      · exact hs6
      · exact hs15
      · exact hs16
      · exact hs17)
    rw [show (keepL [2, 3, 5, 6, 15, 16, 17] 0 st.tmps) = _ from this, beq_len hb]
    rfl
  rw [← hk] at key
  have key : LoopSem Try.prog 1 (ceX Try.prog) st _ _ := LoopSem.clean (mask := [2, 3, 5, 6, 15, 16, 17]) key
  unfold ceO ceQ at key
  simp only [show ((n : Int) - 0).toNat = n by omega] at key
  rcases Ans.br_some hr1 with ⟨hq, hr2⟩ | ⟨hq, hr2⟩
  · rw [nilL_t hq] at key
    simp only [Ans.res, Option.some.injEq, Prod.mk.injEq] at hr2
    obtain ⟨rfl, rfl⟩ := hr2
    exact key
  · rw [nilL_f hq] at key
    simp only [Ans.res, Option.some.injEq, Prod.mk.injEq] at hr2
    obtain ⟨rfl, rfl⟩ := hr2
    exact key
end Go.Proofs.Ytneaibkfglfpaaa


namespace Go.Proofs.Ytneaibkfglfpaaa
open Go Vx

def raX (P : Program) : Code := (loopsOf P 18 6).headD .skip
theorem raX_eq : loopsOf Try.prog 18 6 = [raX Try.prog] := by kernel_rfl
def raV (sh : Sh) (k : Nat) : Value := match sh with
  | .b => .slice (some ⟨1, 0, some 0⟩) k 9
  | _ => .slice none 0 0
def raM (sh : Sh) (own : Bool) (n : Nat) (xs : List O3) (k : Nat) (r : Nat → List Value) : Mem := match sh with
  | .e => [.rows own true 12 n (opRow xs)]
  | .a => [.rows own true 12 n (opRow xs), .no]
  | .b => [.rows own true 12 n (opRow xs), .rows true true 9 k r]
def raH (sh : Sh) (own : Bool) (n : Nat) (xs : List O3) (k : Nat) (r : Nat → List Value) (i : Int) : St := stOf 40 [(0, .slice (some ⟨0, 0, some 0⟩) n 12), (2, .slice none 0 0), (3, vI 0), (5, raV sh k), (13, .slice (some ⟨0, 0, some 0⟩) n 12), (14, vI n), (15, vI i)] (raM sh own n xs k r)
def raE (sh : Sh) (own : Bool) (n : Nat) (xs : List O3) (k : Nat) (r : Nat → List Value) : St := stOf 40 [(2, .slice none 0 0), (3, vI 0), (5, raV sh k)] (raM sh own n xs k r)
theorem raRe (own : Bool) (n : Nat) (xs : List O3) (k : Nat) (ms : List M3) (i : Int) : roundR ((Cdk Try.prog).into 18 1) 40 (raX Try.prog) [0, 2, 3, 5, 13, 14, 15] [2, 3, 5] [.fix 0, .slot 5] [.fix 0, .slot 5] (raH .e own n xs k (mtRow ms) i) =
    (match decide (i < (n : Int)) with
    | true => match boundsI i n with
      | true => match (i == 0) with
        | true => some (.normal, raH .b own n xs 1 (chop 9 0 ((atO xs i).r).cells) (W (i + 1)))
        | false => match boundsI (W (i - 1)) n with
          | true => match !((atO xs i).r.eqB (atO xs (W (i - 1))).r) with
            | true => some (.normal, raH .b own n xs 1 (chop 9 0 ((atO xs i).r).cells) (W (i + 1)))
            | false => some (.normal, raH .a own n xs k (mtRow ms) (W (i + 1)))
          | false => none
      | false => none
    | false => some (.exit 0, raE .a own n xs k (mtRow ms))) := by kernel_rfl
theorem raRa (own : Bool) (n : Nat) (xs : List O3) (k : Nat) (ms : List M3) (i : Int) : roundR ((Cdk Try.prog).into 18 1) 40 (raX Try.prog) [0, 2, 3, 5, 13, 14, 15] [2, 3, 5] [.fix 0, .slot 5] [.fix 0, .slot 5] (raH .a own n xs k (mtRow ms) i) =
    (match decide (i < (n : Int)) with
    | true => match boundsI i n with
      | true => match (i == 0) with
        | true => some (.normal, raH .b own n xs 1 (chop 9 0 ((atO xs i).r).cells) (W (i + 1)))
        | false => match boundsI (W (i - 1)) n with
          | true => match !((atO xs i).r.eqB (atO xs (W (i - 1))).r) with
            | true => some (.normal, raH .b own n xs 1 (chop 9 0 ((atO xs i).r).cells) (W (i + 1)))
            | false => some (.normal, raH .a own n xs k (mtRow ms) (W (i + 1)))
          | false => none
      | false => none
    | false => some (.exit 0, raE .a own n xs k (mtRow ms))) := by kernel_rfl
theorem raRb (own : Bool) (n : Nat) (xs : List O3) (k : Nat) (ms : List M3) (i : Int) : roundR ((Cdk Try.prog).into 18 1) 40 (raX Try.prog) [0, 2, 3, 5, 13, 14, 15] [2, 3, 5] [.fix 0, .slot 5] [.fix 0, .slot 5] (raH .b own n xs k (mtRow ms) i) =
    (match decide (i < (n : Int)) with
    | true => match boundsI i n with
      | true => match (i == 0) with
        | true => gd (Nat.beq k k && room9 (k + 1)) (some (.normal, raH .b own n xs (k + 1) (catR k (mtRow ms) (chop 9 0 ((atO xs i).r).cells)) (W (i + 1))))
        | false => match boundsI (W (i - 1)) n with
          | true => match !((atO xs i).r.eqB (atO xs (W (i - 1))).r) with
            | true => gd (Nat.beq k k && room9 (k + 1)) (some (.normal, raH .b own n xs (k + 1) (catR k (mtRow ms) (chop 9 0 ((atO xs i).r).cells)) (W (i + 1))))
            | false => some (.normal, raH .b own n xs k (mtRow ms) (W (i + 1)))
          | false => none
      | false => none
    | false => some (.exit 0, raE .b own n xs k (mtRow ms))) := by kernel_rfl
structure raG where
  (sh : Sh) (own : Bool) (n : Nat) (xs : List O3) (k : Nat) (ms : List M3) (i : Int)
def raHg (g : raG) : St := raH g.sh g.own g.n g.xs g.k (mtRow g.ms) g.i
def raI (g : raG) : Prop := g.xs.length = g.n ∧ g.n ≤ 1000 ∧ g.ms.length = g.k ∧ (g.k : Int) ≤ g.i ∧ 0 ≤ g.i ∧ g.i ≤ (g.n : Int) ∧ shOk g.sh g.ms
def raQ (g : raG) : List M3 := bld (fun i => rotT g.xs i) (fun i => (atO g.xs i).r) (g.n - g.i).toNat g.i g.ms
def raO (g : raG) : Exit × St := (.exit 0, raE (shOf1 (raQ g)) g.own g.n g.xs (raQ g).length (mtRow (raQ g)))
theorem raL (g : raG) (hg : raI g) : LoopSem Try.prog 1 (raX Try.prog) (raHg g) (raO g).1 (raO g).2 := by
  refine loop_rule2 (C := Cdk Try.prog) okdk (f := 18) (B := 1) (loopsOf_in (k := 6) raX_eq) 40 [0, 2, 3, 5, 13, 14, 15] [2, 3, 5] [.fix 0, .slot 5] [.fix 0, .slot 5] raHg (fun g => (g.n - g.i).toNat) raI raO ?_ g hg
  clear hg g
  rintro ⟨sh, own, n, xs, k, ms, i⟩ hg
  unfold raI at hg
  simp only at hg
  obtain ⟨h1, h2, h3, h4, h5, h6, h7⟩ := hg
  by_cases hi : i < (n : Int)
  · have hd : decide (i < (n : Int)) = true := by simpa using hi
    have hb : boundsI i n = true := by simp [boundsI, h5, hi]
    have hw : W (i + 1) = i + 1 := W_in (by omega)
    have hs : ((n : Int) - i).toNat = ((n : Int) - (i + 1)).toNat + 1 := by omega
    have hq : raQ ⟨sh, own, n, xs, k, ms, i⟩ = bld (fun i => rotT xs i) (fun i => (atO xs i).r) (((n : Int) - (i + 1)).toNat + 1) i ms := by unfold raQ; simp only [hs]
    have hrm : (Nat.beq k k && room9 (k + 1)) = true := by rw [Nat.beq_refl, room9_ok (by omega)]; rfl
    left
    cases ht : (rotT xs i) with
    | true =>
      refine ⟨⟨.b, own, n, xs, k + 1, ms ++ [(atO xs i).r], i + 1⟩, raH .b own n xs (match sh with
        | .b => k + 1
        | _ => 1) (match sh with
        | .b => catR k (mtRow ms) (chop 9 0 ((atO xs i).r).cells)
        | _ => chop 9 0 ((atO xs i).r).cells) (i + 1), ?_, ?_, ?_, by simp only; omega, ?_⟩
      · by_cases h0 : i = 0
        · subst h0
          unfold raHg
          cases sh <;> simp only [raRe, raRa, raRb, hd, hb, hw, beq_self_eq_true, hrm, gd_true]
        · have e0 : (i == 0) = false := by simpa using h0
          have hw1 : W (i - 1) = i - 1 := W_in (by omega)
          have hb1 : boundsI (i - 1) n = true := by simp [boundsI]; omega
          have ht' := ht
          unfold rotT at ht'
          rw [e0] at ht'
          simp only at ht'
          unfold raHg
          cases sh <;> simp only [raRe, raRa, raRb, hd, hb, hw, e0, hw1, hb1, ht', hrm, gd_true]
      · cases sh with
        | e => have : ms = [] := h7; subst this; have : k = 0 := h3.symm; subst this; exact ⟨rfl, .refl _, like_chopmts _, trivial⟩
        | a => have : ms = [] := h7; subst this; have : k = 0 := h3.symm; subst this; exact ⟨rfl, .refl _, like_chopmts _, trivial⟩
        | b => exact ⟨rfl, .refl _, like_nrmts h3 _, trivial⟩
      · unfold raI
        simp only
        exact ⟨h1, h2, by simp [h3], by omega, by omega, by omega, by simp [shOk]⟩
      · unfold raO
        rw [hq]
        simp only [bld, ht, raQ]
    | false =>
      refine ⟨⟨sh.next, own, n, xs, k, ms, i + 1⟩, raH sh.next own n xs k (mtRow ms) (i + 1), ?_, StLike.refl _, ?_, by simp only; omega, ?_⟩
      · by_cases h0 : i = 0
        · subst h0
          simp [rotT] at ht
        · have e0 : (i == 0) = false := by simpa using h0
          have hw1 : W (i - 1) = i - 1 := W_in (by omega)
          have hb1 : boundsI (i - 1) n = true := by simp [boundsI]; omega
          have ht' := ht
          unfold rotT at ht'
          rw [e0] at ht'
          simp only at ht'
          unfold raHg
          cases sh <;> simp only [raRe, raRa, raRb, hd, hb, hw, e0, hw1, hb1, ht', Sh.next]
      · unfold raI
        simp only
        exact ⟨h1, h2, h3, by omega, by omega, by omega, by cases sh <;> exact h7⟩
      · unfold raO
        rw [hq]
        simp only [bld, ht, raQ]
  · have hd : decide (i < (n : Int)) = false := by simpa using hi
    right
    have hq : raQ ⟨sh, own, n, xs, k, ms, i⟩ = ms := by
      unfold raQ
      rw [show ((n : Int) - i).toNat = 0 by omega]
      rfl
    refine ⟨raE sh.next own n xs k (mtRow ms), ?_, ?_, by unfold raO; simp⟩
    · unfold raO raHg
      cases sh with
      | e => simp only [raRe, hd, Sh.next]
      | a => simp only [raRa, hd, Sh.next]
      | b => simp only [raRb, hd, Sh.next]
    · unfold raO
      rw [hq]
      simp only [h3, shOf1_ok h7]
      exact StLike.refl _
def raD : Mem → Option (Bool × Nat × (Nat → List Value))
  | [.rows own true 12 n2 row] => some (own, n2, row)
  | _ => none
theorem raD_spec {m : Mem} {own : Bool} {n2 : Nat} {row : Nat → List Value} (h : raD m = some (own, n2, row)) : m = [.rows own true 12 n2 row] := by
  unfold raD at h
  split at h
  · simp only [Option.some.injEq, Prod.mk.injEq] at h
    obtain ⟨rfl, rfl, rfl⟩ := h
    rfl
  · cases h
def raS (st : St) : Option (Ans (Exit × St)) :=
  match Nat.beq st.tmps.length 40, tAt st 0, tAt st 2, tAt st 3, tAt st 5, tAt st 13, tAt st 14, tAt st 15, raD (thaw (killV st.mem)) with
  | true, some (.slice (some ⟨0, 0, some 0⟩) n 12), some (.slice none 0 0), some (.int .i64 0), some (.slice none 0 0), some (.slice (some ⟨0, 0, some 0⟩) n3 12), some (.int .i64 ln), some (.int .i64 i), some (own, n2, row) => some (.br (Nat.beq n n2 && (okOps n row && (decide (ln = (n : Int)) && (decide (0 = i) && (decide (n ≤ 1000) && (Nat.beq n n3)))))) (.br (nilL (bld (fun i => rotT (opsOf n row) i) (fun i => (atO (opsOf n row) i).r) n 0 [])) (.out (.exit 0, raE .a own n (opsOf n row) (bld (fun i => rotT (opsOf n row) i) (fun i => (atO (opsOf n row) i).r) n 0 []).length (mtRow (bld (fun i => rotT (opsOf n row) i) (fun i => (atO (opsOf n row) i).r) n 0 [])))) (.out (.exit 0, raE .b own n (opsOf n row) (bld (fun i => rotT (opsOf n row) i) (fun i => (atO (opsOf n row) i).r) n 0 []).length (mtRow (bld (fun i => rotT (opsOf n row) i) (fun i => (atO (opsOf n row) i).r) n 0 []))))) .fail)
  | _, _, _, _, _, _, _, _, _ => none
theorem raK {st : St} {ans : Ans (Exit × St)} {e_ : Exit} {s_ : St} (h : raS st = some ans) (hr : ans.res = some (e_, s_)) : LoopSem Try.prog 1 (raX Try.prog) st e_ s_ := by
  unfold raS at h
  split at h
  rotate_left
  · cases h
  rename_i n n3 ln i own n2 row hb hs0 hs2 hs3 hs5 hs13 hs14 hs15 hD
  simp only [Option.some.injEq] at h
  subst h
  rcases Ans.br_some hr with ⟨hc, hr1⟩ | ⟨_, hr1⟩
  rotate_left
  · simp [Ans.res] at hr1
  clear hr
  simp only [Bool.and_eq_true, decide_eq_true_eq] at hc
  obtain ⟨c1, c2, c3, c4, c5, d0⟩ := hc
  have c1 := beq_len c1
  subst c1 c3 c4
  have d0 := beq_len d0
  subst d0
  have hmem := raD_spec hD
  have hI : raI ⟨.e, own, n, opsOf n row, 0, [], 0⟩ := by
    unfold raI
    simp only
    exact ⟨opsOf_length n row, c5, rfl, by omega, by omega, by omega, rfl⟩
  have key := raL _ hI
  have hlike : LikeL (thaw (killV st.mem)) (raHg ⟨.e, own, n, opsOf n row, 0, [], 0⟩).mem := by
    rw [hmem]
    exact ⟨.rows (ops_like c2), trivial⟩
  have key := LoopSem.like (tm := (raHg ⟨.e, own, n, opsOf n row, 0, [], 0⟩).tmps) (m := thaw (killV st.mem)) key hlike
  have key := LoopSem.fresh key
  have hk : keepL [0, 2, 3, 5, 13, 14, 15] 0 st.tmps = (raHg ⟨.e, own, n, opsOf n row, 0, [], 0⟩).tmps := by
    have := keep_eq [(0, .slice (some ⟨0, 0, some 0⟩) n 12), (2, .slice none 0 0), (3, vI 0), (5, .slice none 0 0), (13, .slice (some ⟨0, 0, some 0⟩) n 12), (14, vI n), (15, vI 0)] st.tmps 0 (by
      intro x hx _
      simp only [List.mem_cons, List.not_mem_nil, or_false] at hx
      rcases hx with rfl | rfl | rfl | rfl | rfl | rfl | rfl
      · exact hs0
      · exact hs2
      · exact hs3
      · exact hs5
      · exact hs13
      · exact hs14
      · exact hs15)
    rw [show (keepL [0, 2, 3, 5, 13, 14, 15] 0 st.tmps) = _ from this, beq_len hb]
    rfl
  rw [← hk] at key
  have key : LoopSem Try.prog 1 (raX Try.prog) st _ _ := LoopSem.clean (mask := [0, 2, 3, 5, 13, 14, 15]) key
  unfold raO raQ at key
  simp only [show ((n : Int) - 0).toNat = n by omega] at key
  rcases Ans.br_some hr1 with ⟨hq, hr2⟩ | ⟨hq, hr2⟩
  · rw [nilL_t hq] at key
    simp only [Ans.res, Option.some.injEq, Prod.mk.injEq] at hr2
    obtain ⟨rfl, rfl⟩ := hr2
    exact key
  · rw [nilL_f hq] at key
    simp only [Ans.res, Option.some.injEq, Prod.mk.injEq] at hr2
    obtain ⟨rfl, rfl⟩ := hr2
    exact key
end Go.Proofs.Ytneaibkfglfpaaa


namespace Go.Proofs.Ytneaibkfglfpaaa
open Go Vx
def Cpa (P : Program) : Cx := ((Cdk P).addLB 19 7 1 ceS).addLB 18 6 1 raS
theorem okpa : CxOk (Cpa Try.prog) := Cx.addLB_ok (Cx.addLB_ok okdk ceX_eq fun _ _ _ _ h hr => ceK h hr) raX_eq fun _ _ _ _ h hr => raK h hr
def rotsT (X : List O3) : List M3 := bld (fun i => rotT X i) (fun i => (atO X i).r) X.length 0 []
def cens (X : List O3) : List V3 := bld (fun i => (atO X i).r.eqB M3.one) (fun i => (atO X i).t) X.length 0 []
theorem bld_ne {α : Type} {t : Int → Bool} {e : Int → α} : ∀ (c : Nat) (i : Int) (ms : List α), bld t e c i ms = [] → ms = [] ∧ ∀ j : Int, i ≤ j → j < i + (c : Int) → t j = false
  | 0, i, ms, h => ⟨h, fun j h1 h2 => by omega⟩
  | c + 1, i, ms, h => by
    simp only [bld] at h
    cases ht : t i with
    | true =>
      rw [ht] at h
      have := (bld_ne c (i + 1) _ h).1
      simp at this
    | false =>
      rw [ht] at h
      obtain ⟨h1, h2⟩ := bld_ne c (i + 1) _ h
      refine ⟨h1, fun j k1 k2 => ?_⟩
      by_cases hj : j = i
      · subst hj; exact ht
      · exact h2 j (by omega) (by omega)
theorem chk_len {X : List O3} (h : chkI X = 0) : X.length ≤ 192 ∧ O3.one ∈ X := by
  unfold chkI at h
  cases hq : clsOk X with
  | false => rw [hq] at h; exact absurd h (clsErr_ne X)
  | true =>
    rw [hq] at h
    simp only at h
    cases hs : sameB (clsG X) X with
    | false => rw [hs] at h; cases h
    | true =>
      have e := sameB_iff.1 hs
      obtain ⟨h1, h2, hg⟩ := clsOk_spec hq
      refine ⟨h1, ?_⟩
      rw [← e]
      exact (sortO_perm _).mem_iff.2 (hg.grp (all_inv h2)).one
theorem rots_ne {X : List O3} (h : chkI X = 0) : nilL (rotsT X) = false := by
  have h1 := (chk_len h).2
  cases hr : rotsT X with
  | cons m l => rfl
  | nil =>
    exfalso
    have hx : 0 < X.length := List.length_pos_of_mem h1
    have := (bld_ne _ _ _ hr).2 0 (by omega) (by omega)
    cases this
theorem cens_ne {X : List O3} (h : chkI X = 0) : nilL (cens X) = false := by
  have h1 := (chk_len h).2
  cases hr : cens X with
  | cons m l => rfl
  | nil =>
    exfalso
    obtain ⟨j, hj, e⟩ := List.mem_iff_getElem.1 h1
    have h2 := (bld_ne _ _ _ hr).2 (j : Int) (by omega) (by omega)
    have hat : atO X (j : Int) = O3.one := by unfold atO; rw [Int.toNat_natCast, List.getElem?_eq_getElem hj]; exact e
    simp only [hat] at h2
    rw [show O3.one.r = M3.one from rfl, M3.eqB_refl] at h2
    cases h2
def partT2 (n : Nat) (row : Nat → List Value) : Bool := Nat.beq n n && (okOps n row && (decide ((n : Int) = (n : Int)) && (decide ((0 : Int) = 0) && (decide (n ≤ 1000) && Nat.beq n n))))
def partT3 (n : Nat) (row : Nat → List Value) : Bool := Nat.beq n n && (okOps n row && (decide ((n : Int) = (n : Int)) && (decide ((0 : Int) = 0) && (decide (n ≤ 1000) && (isO O3.one.cells && (decO O3.one.cells).eqB O3.one)))))
def endM (own : Bool) (N : Nat) (X : List O3) (Q : List M3) : Option (Value × Mem) := match nilL Q with
  | true => some (nilE 0, [.rows own true 12 N (opRow X), .no])
  | false => some (.tuple #[.slice (some ⟨1, 0, some 0⟩) Q.length 9, vI 0], [.rows own true 12 N (opRow X), .rows true true 9 Q.length (mtRow Q)])
def endV (own : Bool) (N : Nat) (X : List O3) (Q : List V3) : Option (Value × Mem) := match nilL Q with
  | true => some (nilE 0, [.rows own true 12 N (opRow X), .no])
  | false => some (.tuple #[.slice (some ⟨1, 0, some 0⟩) Q.length 3, vI 0], [.rows own true 12 N (opRow X), .rows true true 3 Q.length (vcRow Q)])

theorem rtE0 : exT ((Cpa Try.prog).at 18) 60 Try.f18 [.slice none 0 0] [] [.slot 0] = some (nilE 5, [.no]) := by kernel_rfl
theorem rtE1 (own : Bool) (N : Nat) (ls : List O3) : exT ((Cpa Try.prog).at 18) 60 Try.f18 [.slice (some ⟨0, 0, some 0⟩) N 12] [.rows own true 12 N (opRow ls)] [.fix 0, .slot 0] =
    gd (oT N (opRow ls)) (match chkI (opsOf N (opRow ls)) != 0 with
      | true => some (nilE (chkI (opsOf N (opRow ls))), [.rows own true 12 N (opRow (opsOf N (opRow ls))), .no])
      | false => gd (partT2 N (opRow (opsOf N (opRow ls)))) (endM own N (opsOf N (opRow (opsOf N (opRow ls)))) (bld (fun i => rotT (opsOf N (opRow (opsOf N (opRow ls)))) i) (fun i => (atO (opsOf N (opRow (opsOf N (opRow ls)))) i).r) N 0 []))) := by kernel_rfl
def rtF : List Value → Mem → Option (Ans (Value × Mem))
  | [.slice none 0 0], [] => some (.out (nilE 5, [.no]))
  | [.slice (some ⟨0, 0, some 0⟩) N 12], [.rows own true 12 N2 row] => some (.br (Nat.beq N N2 && (okOps N row && decide (N ≤ 4611686018427387904))) (.br (chkI (opsOf N row) != 0) (.out (nilE (chkI (opsOf N row)), [.rows own true 12 N (opRow (opsOf N row)), .no])) (.out (.tuple #[.slice (some ⟨1, 0, some 0⟩) (rotsT (opsOf N row)).length 9, vI 0], [.rows own true 12 N (opRow (opsOf N row)), .rows true true 9 (rotsT (opsOf N row)).length (mtRow (rotsT (opsOf N row)))]))) .fail)
  | _, _ => none
theorem rtS {args : List Value} {m : Mem} {ans : Ans (Value × Mem)} {v : Value} {m' : Mem} (h : rtF args m = some ans) (hr : ans.res = some (v, m')) : MemSem Try.prog 18 args m v m' := by
  unfold rtF at h
  split at h
  · simp only [Option.some.injEq] at h
    subst h
    simp only [Ans.res, Option.some.injEq, Prod.mk.injEq] at hr
    obtain ⟨rfl, rfl⟩ := hr
    exact exT_ok okpa Try.func18 (by kernel_rfl) rtE0
  · rename_i N own N2 row
    simp only [Option.some.injEq] at h
    subst h
    rcases Ans.br_some hr with ⟨hc, hr1⟩ | ⟨_, hr1⟩
    rotate_left
    · simp [Ans.res] at hr1
    clear hr
    simp only [Bool.and_eq_true, decide_eq_true_eq] at hc
    obtain ⟨c1, c2, c3⟩ := hc
    have c1 := beq_len c1
    subst c1
    have hl := opsOf_length N row
    have hE := rtE1 own N (opsOf N row)
    have tg : oT N (opRow (opsOf N row)) = true := by unfold oT; rw [Nat.beq_refl, okOps_opRow]; simp
    rw [opsOf_row hl, opsOf_row hl, tg] at hE
    simp only [gd_true] at hE
    rcases Ans.br_some hr1 with ⟨hq, hr2⟩ | ⟨hq, hr2⟩
    · rw [hq] at hE
      simp only [Ans.res, Option.some.injEq, Prod.mk.injEq] at hr2
      obtain ⟨rfl, rfl⟩ := hr2
      exact (exT_ok okpa Try.func18 (by kernel_rfl) hE).like ⟨.rows (ops_like c2), trivial⟩
    · rw [hq] at hE
      have h0 : chkI (opsOf N row) = 0 := by simpa using hq
      have hN := (chk_len h0).1
      rw [hl] at hN
      have ht : partT2 N (opRow (opsOf N row)) = true := by unfold partT2; rw [Nat.beq_refl, okOps_opRow]; simp; omega
      have hQ : bld (fun i => rotT (opsOf N row) i) (fun i => (atO (opsOf N row) i).r) N 0 [] = rotsT (opsOf N row) := by unfold rotsT; rw [hl]
      rw [ht, hQ] at hE
      simp only [gd_true] at hE
      unfold endM at hE
      rw [rots_ne h0] at hE
      simp only [Ans.res, Option.some.injEq, Prod.mk.injEq] at hr2
      obtain ⟨rfl, rfl⟩ := hr2
      exact (exT_ok okpa Try.func18 (by kernel_rfl) hE).like ⟨.rows (ops_like c2), trivial⟩
  · cases h

theorem ctE0 : exT ((Cpa Try.prog).at 19) 60 Try.f19 [.slice none 0 0] [] [.slot 0] = some (nilE 5, [.no]) := by kernel_rfl
theorem ctE1 (own : Bool) (N : Nat) (ls : List O3) : exT ((Cpa Try.prog).at 19) 60 Try.f19 [.slice (some ⟨0, 0, some 0⟩) N 12] [.rows own true 12 N (opRow ls)] [.fix 0, .slot 0] =
    gd (oT N (opRow ls)) (match chkI (opsOf N (opRow ls)) != 0 with
      | true => some (nilE (chkI (opsOf N (opRow ls))), [.rows own true 12 N (opRow (opsOf N (opRow ls))), .no])
      | false => gd (partT3 N (opRow (opsOf N (opRow ls)))) (endV own N (opsOf N (opRow (opsOf N (opRow ls)))) (bld (fun i => (atO (opsOf N (opRow (opsOf N (opRow ls)))) i).r.eqB M3.one) (fun i => (atO (opsOf N (opRow (opsOf N (opRow ls)))) i).t) N 0 []))) := by kernel_rfl
def ctF : List Value → Mem → Option (Ans (Value × Mem))
  | [.slice none 0 0], [] => some (.out (nilE 5, [.no]))
  | [.slice (some ⟨0, 0, some 0⟩) N 12], [.rows own true 12 N2 row] => some (.br (Nat.beq N N2 && (okOps N row && decide (N ≤ 4611686018427387904))) (.br (chkI (opsOf N row) != 0) (.out (nilE (chkI (opsOf N row)), [.rows own true 12 N (opRow (opsOf N row)), .no])) (.out (.tuple #[.slice (some ⟨1, 0, some 0⟩) (cens (opsOf N row)).length 3, vI 0], [.rows own true 12 N (opRow (opsOf N row)), .rows true true 3 (cens (opsOf N row)).length (vcRow (cens (opsOf N row)))]))) .fail)
  | _, _ => none
theorem ctS {args : List Value} {m : Mem} {ans : Ans (Value × Mem)} {v : Value} {m' : Mem} (h : ctF args m = some ans) (hr : ans.res = some (v, m')) : MemSem Try.prog 19 args m v m' := by
  unfold ctF at h
  split at h
  · simp only [Option.some.injEq] at h
    subst h
    simp only [Ans.res, Option.some.injEq, Prod.mk.injEq] at hr
    obtain ⟨rfl, rfl⟩ := hr
    exact exT_ok okpa Try.func19 (by kernel_rfl) ctE0
  · rename_i N own N2 row
    simp only [Option.some.injEq] at h
    subst h
    rcases Ans.br_some hr with ⟨hc, hr1⟩ | ⟨_, hr1⟩
    rotate_left
    · simp [Ans.res] at hr1
    clear hr
    simp only [Bool.and_eq_true, decide_eq_true_eq] at hc
    obtain ⟨c1, c2, c3⟩ := hc
    have c1 := beq_len c1
    subst c1
    have hl := opsOf_length N row
    have hE := ctE1 own N (opsOf N row)
    have tg : oT N (opRow (opsOf N row)) = true := by unfold oT; rw [Nat.beq_refl, okOps_opRow]; simp
    rw [opsOf_row hl, opsOf_row hl, tg] at hE
    simp only [gd_true] at hE
    rcases Ans.br_some hr1 with ⟨hq, hr2⟩ | ⟨hq, hr2⟩
    · rw [hq] at hE
      simp only [Ans.res, Option.some.injEq, Prod.mk.injEq] at hr2
      obtain ⟨rfl, rfl⟩ := hr2
      exact (exT_ok okpa Try.func19 (by kernel_rfl) hE).like ⟨.rows (ops_like c2), trivial⟩
    · rw [hq] at hE
      have h0 : chkI (opsOf N row) = 0 := by simpa using hq
      have hN := (chk_len h0).1
      rw [hl] at hN
      have ht : partT3 N (opRow (opsOf N row)) = true := by unfold partT3; rw [Nat.beq_refl, okOps_opRow, isO_cells, decO_cells, O3.eqB_refl]; simp; omega
      have hQ : bld (fun i => (atO (opsOf N row) i).r.eqB M3.one) (fun i => (atO (opsOf N row) i).t) N 0 [] = cens (opsOf N row) := by unfold cens; rw [hl]
      rw [ht, hQ] at hE
      simp only [gd_true] at hE
      unfold endV at hE
      rw [cens_ne h0] at hE
      simp only [Ans.res, Option.some.injEq, Prod.mk.injEq] at hr2
      obtain ⟨rfl, rfl⟩ := hr2
      exact (exT_ok okpa Try.func19 (by kernel_rfl) hE).like ⟨.rows (ops_like c2), trivial⟩
  · cases h

def Cpb (P : Program) : Cx := ((Cpa P).addF 18 rtF).addF 19 ctF
theorem okpb : CxOk (Cpb Try.prog) := Cx.addF_ok (Cx.addF_ok okpa fun _ _ _ _ _ h hr => rtS h hr) fun _ _ _ _ _ h hr => ctS h hr
end Go.Proofs.Ytneaibkfglfpaaa


namespace Go.Proofs.Ytneaibkfglfpaaa.Vx
open Go
def P3.cells (p : P3) : List Value := [.int .i64 p.m, .int .i64 p.x.x, .int .i64 p.x.y, .int .i64 p.x.z]
def ptCells : List Value → Option P3
  | [.int .i64 m, .int .i64 x, .int .i64 y, .int .i64 z] => some ⟨m, ⟨x, y, z⟩⟩
  | _ => none
theorem ptCells_spec {l : List Value} {p : P3} (h : ptCells l = some p) : l = p.cells := by
  unfold ptCells at h
  split at h
  · simp only [Option.some.injEq] at h
    subst h
    rfl
  · cases h
/-- The cells of a list's places. -/
def ptRow (l : List P3) : Nat → List Value := fun i => ((l[i]?).getD P3.zero).cells
def decP (l : List Value) : P3 := match ptCells l with
  | some o => o
  | none => P3.zero
def isP (l : List Value) : Bool := match ptCells l with
  | some _ => true
  | none => false
def okPts (n : Nat) (row : Nat → List Value) : Bool := (List.range n).all fun i => isP (row i)
def ptsOf (n : Nat) (row : Nat → List Value) : List P3 := (List.range n).map fun i => decP (row i)
theorem isP_cells (o : P3) : isP o.cells = true := rfl
theorem decP_cells (o : P3) : decP o.cells = o := rfl
theorem okPts_ptRow (xs : List P3) (n : Nat) : okPts n (ptRow xs) = true := List.all_eq_true.2 fun _ _ => isP_cells _
theorem ptsOf_ptRow (xs : List P3) : ptsOf xs.length (ptRow xs) = xs := by
  apply List.ext_getElem?
  intro i
  unfold ptsOf ptRow
  rw [List.getElem?_map]
  by_cases hi : i < xs.length
  · rw [List.getElem?_range hi, List.getElem?_eq_getElem hi]
    simp [decP_cells, List.getElem?_eq_getElem hi]
  · rw [List.getElem?_eq_none (by simp; omega), List.getElem?_eq_none (by omega)]; rfl
theorem ptsOf_length (n : Nat) (row : Nat → List Value) : (ptsOf n row).length = n := by simp [ptsOf]
theorem pts_like {n : Nat} {row : Nat → List Value} (h : okPts n row = true) : rowsLike n row (ptRow (ptsOf n row)) := by
  intro i hi
  have := List.all_eq_true.1 h i (List.mem_range.2 hi)
  unfold isP at this
  split at this
  · rename_i o ho
    unfold ptRow ptsOf
    rw [List.getElem?_map, List.getElem?_range hi]
    simp only [Option.map_some, Option.getD_some, decP, ho]
    exact ptCells_spec ho
  · cases this
theorem ptsOf_row {xs : List P3} {n : Nat} (h : xs.length = n) : ptsOf n (ptRow xs) = xs := by subst h; exact ptsOf_ptRow xs
end Go.Proofs.Ytneaibkfglfpaaa.Vx


namespace Go.Proofs.Ytneaibkfglfpaaa.Vx
open Go
theorem leastN_ck3 (o : O3) : leastN o.ck 3 = leastI o.ck 3 := by
  rcases O3.ck_cases o with h | h | h <;> rw [h] <;> decide
def tOApplyN (o : O3) (p : P3) : Option Value :=
  match !p.form with
  | true => tOApplyEnd o p (leastN o.ck 3)
  | false => tOApplyEnd o p o.ck
theorem tOApplyN_eq (o : O3) (p : P3) : tOApplyN o p = some (fOApply o p) := by
  unfold tOApplyN
  rw [leastN_ck3]
  exact tOApply_eq o p
def P3.c1 (p q : P3) : Int := cmpR (W (p.x.x * q.m)) (W (q.x.x * p.m))
def P3.c2 (p q : P3) : Int := cmpR (W (p.x.y * q.m)) (W (q.x.y * p.m))
def P3.c3 (p q : P3) : Int := cmpR (W (p.x.z * q.m)) (W (q.x.z * p.m))
def P3.lex (p q : P3) : Int := match p.c1 q != 0 with
  | true => p.c1 q
  | false => match p.c2 q != 0 with
    | true => p.c2 q
    | false => match p.c3 q != 0 with
      | true => p.c3 q
      | false => 0
def tPOrd (p q : P3) : Option Value := match !p.form with
  | true => some (p2 (vI 0) (vI 3))
  | false => match !q.form with
    | true => some (p2 (vI 0) (vI 3))
    | false => match p.c1 q != 0 with
      | true => some (p2 (vI (p.c1 q)) (vI 0))
      | false => match p.c2 q != 0 with
        | true => some (p2 (vI (p.c2 q)) (vI 0))
        | false => match p.c3 q != 0 with
          | true => some (p2 (vI (p.c3 q)) (vI 0))
          | false => some (p2 (vI 0) (vI 0))
def P3.ordV (p q : P3) : Int := bif p.form && q.form then p.lex q else 0
def P3.ordE (p q : P3) : Int := bif p.form && q.form then 0 else 3
def fPOrd (p q : P3) : Value := p2 (vI (p.ordV q)) (vI (p.ordE q))
theorem tPOrd_eq (p q : P3) : tPOrd p q = some (fPOrd p q) := by
  unfold tPOrd fPOrd P3.ordV P3.ordE P3.lex
  cases p.form <;> cases q.form <;> cases p.c1 q != 0 <;> cases p.c2 q != 0 <;> cases p.c3 q != 0 <;> rfl
def tPCmp (p q : P3) : Option Value := some (vI (p.ordV q))
def fPCmp (p q : P3) : Value := vI (p.ordV q)
theorem tPCmp_eq (p q : P3) : tPCmp p q = some (fPCmp p q) := rfl
def P3.ckP (p : P3) : Int := bif p.form then 0 else 3
def tChkP (p : P3) : Option Value := match !p.form with
  | true => some (vI 3)
  | false => some (vI 0)
def fChkP (p : P3) : Value := vI p.ckP
theorem tChkP_eq (p : P3) : tChkP p = some (fChkP p) := by unfold tChkP fChkP P3.ckP; cases p.form <;> rfl
end Go.Proofs.Ytneaibkfglfpaaa.Vx


namespace Go.Proofs.Ytneaibkfglfpaaa.Vx
open Go Go.RowKit

def shiftR (i : Nat) (row : Nat → List Value) : Nat → List Value := match i with
  | 0 => row
  | i + 1 => fun j => row (i + 1 + j)
theorem shiftR_at (i : Nat) (row : Nat → List Value) (j : Nat) : shiftR i row j = row (i + j) := by cases i <;> simp [shiftR]
/-- Rows that can be lent. -/
def rowsAt : Option Blk → Option (Nat × Nat × (Nat → List Value))
  | some (.rows _ true e n row) => some (e, n, row)
  | some (.grow true e n row) => some (e, n, row)
  | _ => none
def sliceAt : Value → Option (Nat × Nat × Nat × Nat)
  | .slice (some a) n e => match a.off, a.spot with
    | 0, some i => some (a.block, i, n, e)
    | _, _ => none
  | _ => none
/-- Each slice that is handed in is a block of its own, which is only read. -/
def lendA (m : Mem) : List Value → Nat → Option (List Value × Mem × Bool)
  | [], _ => some ([], [], true)
  | v :: l, k => match sliceAt v with
    | some (b, i, n, e) => match rowsAt m[b]? with
      | some (e2, n2, row) => match Nat.beq e2 e with
        | true => match lendA m l (k + 1) with
          | some (ags, ms, c) => some (.slice (some ⟨k, 0, some 0⟩) n e :: ags, .rows false true e n (shiftR i row) :: ms, Nat.ble (i + n) n2 && c)
          | none => none
        | false => none
      | none => none
    | none => match plain v with
      | true => match lendA m l k with
        | some (ags, ms, c) => some (v :: ags, ms, c)
        | none => none
      | false => none
theorem sliceAt_spec {v : Value} {b i n e : Nat} (h : sliceAt v = some (b, i, n, e)) : v = .slice (some ⟨b, 0, some i⟩) n e := by
  cases v with
  | slice a n2 e2 =>
    cases a with
    | none => cases h
    | some a =>
      obtain ⟨b2, off, spot⟩ := a
      cases off with
      | succ o => cases h
      | zero =>
        cases spot with
        | none => cases h
        | some j =>
          simp only [sliceAt, Option.some.injEq, Prod.mk.injEq] at h
          obtain ⟨rfl, rfl, rfl, rfl⟩ := h
          rfl
  | _ => cases h
theorem rowsAt_rel {w : World} {r : Ren} {p : Place} {kk : Blk} {e n : Nat} {row : Nat → List Value} (hb : BlkRel w r p kk) (h : rowsAt (some kk) = some (e, n, row)) :
    p.esz = e ∧ p.n = n ∧ (∀ i, i < n → allL plain0 (row i) = true) ∧ ∃ cs T fz, w.heap[p.blk]? = some (.cells cs T fz) ∧ ∀ i, i < n → (row i).length = e ∧ CellsAt r cs (p.off + i * e) (row i) := by
  cases kk with
  | rows own pl e2 n2 row2 =>
    cases pl with
    | false => cases h
    | true =>
      simp only [rowsAt, Option.some.injEq, Prod.mk.injEq] at h
      obtain ⟨rfl, rfl, rfl⟩ := h
      obtain ⟨h1, h2, h0, hp, cs, T, fz, h6, h3, h4, h5⟩ := hb
      exact ⟨h2, h0, hp rfl, cs, T, fz, h3, h5⟩
  | grow pl e2 n2 row2 =>
    cases pl with
    | false => cases h
    | true =>
      simp only [rowsAt, Option.some.injEq, Prod.mk.injEq] at h
      obtain ⟨rfl, rfl, rfl⟩ := h
      obtain ⟨h1, h2, h0, hp, cs, T, fz, h3, h4, h5⟩ := hb
      exact ⟨h2, h0, hp rfl, cs, T, fz, h3, h5⟩
  | _ => cases h
theorem lend_ok {w0 w : World} {keep : Keep} {r : Ren} {m : Mem} (hm : MemRel w0 keep r m w) : ∀ (args : List Value) (k : Nat) {ags : List Value} {ms : Mem} {c : Bool} {args' : List Value}, lendA m args k = some (ags, ms, c) → c = true → RL (R r) args args' →
    ∃ ps : List Place, ps.length = ms.length ∧ (∀ (rl : Ren), (∀ (i : Nat) p, ps[i]? = some p → rl (k + i) = some (some p)) → RL (R rl) ags args') ∧ ∀ (i : Nat) p, ps[i]? = some p → p.own = false ∧ p.room = 0 ∧ (∃ b q, r b = some (some q) ∧ q.blk = p.blk) ∧ ∃ kk, ms[i]? = some kk ∧ ∀ rl : Ren, BlkRel w rl p kk
  | [], k, ags, ms, c, args', h, hc, ha => by
    simp only [lendA, Option.some.injEq, Prod.mk.injEq] at h
    obtain ⟨rfl, rfl, -⟩ := h
    exact ⟨[], rfl, fun _ _ => by cases args' with | nil => trivial | cons => exact ha.elim, fun i p hp => by simp at hp⟩
  | v :: l, k, ags, ms, c, [], h, hc, ha => ha.elim
  | v :: l, k, ags, ms, c, v' :: l', h, hc, ha => by
    simp only [lendA] at h
    split at h
    · rename_i b i n e hv
      have hv := sliceAt_spec hv
      subst hv
      split at h
      · rename_i e2 n2 row hrow
        split at h
        · rename_i he
          have he := Nat.eq_of_beq_eq_true he
          subst he
          split at h
          · rename_i ags1 ms1 c1 hl
            simp only [Option.some.injEq, Prod.mk.injEq] at h
            obtain ⟨rfl, rfl, rfl⟩ := h
            rw [Bool.and_eq_true] at hc
            obtain ⟨ps, h1, h2, h3⟩ := lend_ok hm l (k + 1) hl hc.2 ha.2
            have hle : i + n ≤ n2 := Nat.le_of_ble_eq_true hc.1
            have hv : R0 r (.slice (some ⟨b, 0, some i⟩) n e2) v' := ha.1
            unfold R0 at hv
            simp only at hv
            cases hr : r b with
            | none => rw [hr] at hv; exact hv.elim
            | some q =>
              cases q with
              | none =>
                rw [hm.dead b hr] at hrow
                cases hrow
              | some p =>
                rw [hr] at hv
                simp only at hv
                obtain ⟨cc, rfl, s1, s2, s3, s4, s5⟩ := hv
                obtain ⟨kk, hkb, hrel⟩ := hm.blk b p hr
                rw [hkb] at hrow
                obtain ⟨q1, q2, q3, cs, T, fz, q4, q5⟩ := rowsAt_rel hrel hrow
                refine ⟨⟨p.blk, p.off + i * e2, e2, n, 0, false⟩ :: ps, by simp [h1], fun rl hrl => ⟨?_, h2 rl fun j q hq => ?_⟩, fun j q hq => ?_⟩
                · have := hrl 0 _ rfl
                  simp only [Nat.add_zero] at this
                  have hg : R0 rl (.slice (some ⟨k, 0, some 0⟩) n e2) (.slice (some (p.addr ⟨b, 0, some i⟩)) n cc) := by
                    unfold R0
                    simp only [this]
                    refine ⟨cc, by simp [Place.addr, q1], s1, fun j hj => ?_, fun _ => rfl, fun _ => rfl, fun h => by cases h⟩
                    simp only [Option.some.injEq] at hj
                    subst hj
                    simp
                  exact hg
                · have := hrl (j + 1) q (by simpa using hq)
                  rw [← this]; congr 1; omega
                · cases j with
                  | zero =>
                    simp only [List.getElem?_cons_zero, Option.some.injEq] at hq
                    subst hq
                    refine ⟨rfl, rfl, ⟨b, p, hr, rfl⟩, _, rfl, fun rl => ⟨rfl, rfl, rfl, fun _ j hj => ?_, cs, T, fz, fun _ => rfl, q4, (fun h => by cases h), fun j hj => ?_⟩⟩
                    · rw [shiftR_at]; exact q3 _ (by omega)
                    · rw [shiftR_at]
                      refine ⟨(q5 _ (by omega)).1, fun t u hu => ?_⟩
                      have hpu := allL_iff.1 (q3 (i + j) (by omega)) u (List.mem_of_getElem? hu)
                      obtain ⟨u', g1, g2⟩ := (q5 (i + j) (by omega)).2 t u hu
                      refine ⟨u', ?_, (R0_plain hpu).2 ((R0_plain hpu).1 g2)⟩
                      simp only
                      rw [Nat.add_assoc p.off, ← Nat.add_mul]
                      exact g1
                  | succ j =>
                    simp only [List.getElem?_cons_succ] at hq ⊢
                    exact h3 j q hq
          · cases h
        · cases h
      · cases h
    · split at h
      · rename_i hp
        split at h
        · rename_i ags1 ms1 c1 hl
          simp only [Option.some.injEq, Prod.mk.injEq] at h
          obtain ⟨rfl, rfl, rfl⟩ := h
          obtain ⟨ps, h1, h2, h3⟩ := lend_ok hm l k hl hc ha.2
          exact ⟨ps, h1, fun rl hrl => ⟨(R_plain hp).2 ((R_plain hp).1 ha.1), h2 rl hrl⟩, h3⟩
        · cases h
      · cases h

def ownB : Blk → Bool
  | .cells own _ _ => own
  | .rows own _ _ _ _ => own
  | .view .. => false
  | _ => true
theorem ownB_own {w : World} {r : Ren} {p : Place} {k : Blk} (h : BlkRel w r p k) (ho : ownB k = true) : p.own = true := by
  cases k with
  | cells own e c => simp only [ownB] at ho; rw [h.1, ho]
  | rows own pl e n row => simp only [ownB] at ho; rw [h.1, ho]
  | grow pl e n row => exact h.1
  | view pl e n row => cases ho
  | iter s pos => exact h.1
  | mp u n es => exact h.1
  | no => exact h.elim
  | gone => exact h.elim
/-- What is made beside what is there. -/
theorem MemRel.join {w0 w w' : World} {keep kp : Keep} {r rn : Ren} {m mn : Mem} (hm : MemRel w0 keep r m w) (g : MemRel w kp rn mn w') (hk : ∀ j, keep j → kp j) (ho : ∀ b p, r b = some (some p) → kp p.blk) (hown : allB ownB mn = true) :
    MemRel w0 keep (r.back rn [] m.length) (m ++ mapB (unrB [] m.length) mn) w' ∧ Ext r (r.back rn [] m.length) := by
  have hlo : ∀ {b : Nat}, b < m.length → (r.back rn [] m.length) b = r b := fun {b} hb => by simp [Ren.back, idxN, hb]
  have hhi : ∀ {b : Nat}, ¬ b < m.length → (r.back rn [] m.length) b = rn (b - m.length) := fun {b} hb => by simp [Ren.back, idxN, hb]
  have mlo : ∀ {b : Nat}, b < m.length → (m ++ mapB (unrB [] m.length) mn)[b]? = m[b]? := fun {b} hb => List.getElem?_append_left hb
  have mhi : ∀ {b : Nat}, ¬ b < m.length → (m ++ mapB (unrB [] m.length) mn)[b]? = (mn[b - m.length]?).map (unrB [] m.length) := fun {b} hb => by
    rw [List.getElem?_append_right (by omega), mapB_get]
  have newO : ∀ {b : Nat} {p : Place}, rn b = some (some p) → p.own = true := fun {b p} hb => by
    obtain ⟨k, h1, h2⟩ := g.blk b p hb
    exact ownB_own h2 (allB_iff.1 hown k (List.mem_of_getElem? h1))
  have hext : Ext r (r.back rn [] m.length) := fun b => by
    by_cases hb : b < m.length
    · exact Or.inr (Or.inl (hlo hb))
    · exact Or.inl (hm.none b (Or.inl (List.getElem?_eq_none (by omega))))
  refine ⟨⟨g.os.trans hm.os, g.tape.trans hm.tape, g.output.trans hm.output, Nat.le_trans hm.drawn g.drawn, Nat.le_trans hm.size g.size, hm.klt, fun j hj => (g.kept j (hk j hj)).trans (hm.kept j hj), fun b hb => ?_, fun b hb => ?_, fun b p hb => ?_, fun b p hb hp => ?_, fun b p hb hp hz => ?_, fun b p hb hp hz => ?_, fun b c p q hb hc hp hz => ?_, fun b c p q hb hc hp hq he => ?_⟩, hext⟩
  · by_cases hl : b < m.length
    · rw [hlo hl]; rw [mlo hl] at hb; exact hm.none b hb
    · rw [hhi hl]
      rw [mhi hl] at hb
      refine g.none _ ?_
      cases hx : mn[b - m.length]? with
      | none => exact Or.inl rfl
      | some k =>
        rw [hx] at hb
        simp only [Option.map_some, Option.some.injEq, reduceCtorEq, false_or] at hb
        exact Or.inr (by rw [unrB_no.1 hb])
  · by_cases hl : b < m.length
    · rw [hlo hl] at hb; rw [mlo hl]; exact hm.dead b hb
    · rw [hhi hl] at hb
      rw [mhi hl, g.dead _ hb]
      rfl
  · by_cases hl : b < m.length
    · rw [hlo hl] at hb
      rw [mlo hl]
      obtain ⟨k, h1, h2⟩ := hm.blk b p hb
      exact ⟨k, h1, h2.mono (g.kept _ (ho b p hb)) hext⟩
    · rw [hhi hl] at hb
      rw [mhi hl]
      obtain ⟨k, h1, h2⟩ := g.blk _ p hb
      exact ⟨_, by rw [h1]; rfl, BlkRel_back (r := r) (ks := []) rfl rfl h2⟩
  · by_cases hl : b < m.length
    · rw [hlo hl] at hb; exact hm.own b p hb hp
    · rw [hhi hl] at hb; exact fun hk2 => g.own _ p hb hp (hk _ hk2)
  · by_cases hl : b < m.length
    · rw [hlo hl] at hb; exact hm.read b p hb hp hz
    · rw [hhi hl] at hb; rw [newO hb] at hp; cases hp
  · by_cases hl : b < m.length
    · rw [hlo hl] at hb; exact hm.vw b p hb hp hz
    · rw [hhi hl] at hb; rw [newO hb] at hp; cases hp
  · intro hq he
    by_cases hl : b < m.length
    · rw [hlo hl] at hb
      by_cases hl2 : c < m.length
      · rw [hlo hl2] at hc; rw [mlo hl2]; exact hm.sep b c p q hb hc hp hz hq he
      · rw [hhi hl2] at hc
        exact absurd (he ▸ ho b p hb) (g.own _ q hc hq)
    · rw [hhi hl] at hb; rw [newO hb] at hp; cases hp
  · by_cases hl : b < m.length
    · rw [hlo hl] at hb
      by_cases hl2 : c < m.length
      · rw [hlo hl2] at hc; exact hm.inj b c p q hb hc hp hq he
      · rw [hhi hl2] at hc
        exact absurd (he ▸ ho b p hb) (g.own _ q hc hq)
    · rw [hhi hl] at hb
      by_cases hl2 : c < m.length
      · rw [hlo hl2] at hc
        exact absurd (he ▸ ho c q hc) (g.own _ p hb hp)
      · rw [hhi hl2] at hc
        have := g.inj _ _ p q hb hc hp hq he
        omega

def fromN (k : Nat) : Nat → List Nat
  | 0 => []
  | n + 1 => k :: fromN (k + 1) n
def lendG (S : List Value → Mem → Option (Ans (Value × Mem))) (args : List Value) (m : Mem) : Option (Ans (Value × Mem)) := match lendA m args 0 with
  | some (ags, ms, c) => forceL ags fun ags => forceM ms fun ms => match S ags ms with
    | some ans => some (.br c (ans.bind fun vm => forceN (fromN ms.length (vm.2.length - ms.length)) fun ks => match noDup ks && allB noViewB m with
      | true => forceM (renM ks vm.2 ks) fun mn => match allB ownB mn with
        | true => .out (unrV [] m.length (renV ks vm.1), m ++ mapB (unrB [] m.length) mn)
        | false => .fail
      | false => .fail) .fail)
    | none => none
  | none => none
/-- A call that is lent what it reads: what was there is as it was. -/
theorem lend_call {P : Program} {f : FuncId} {args ags : List Value} {m ms mu : Mem} {c : Bool} {u : Value} (hA : lendA m args 0 = some (ags, ms, c)) (hc : c = true) (hS : MemSem P f ags ms u mu) {w0 : World} {keep : Keep} {r : Ren} {args' : List Value} {w : World} (hargs : RL (R r) args args') (hm : MemRel w0 keep r m w) {Q : Ending → World → Prop}
    (hQ : ∀ v' rs w' (kp : Keep), R rs u v' → MemRel w kp rs mu w' → (∀ j, keep j → kp j) → (∀ b p, r b = some (some p) → kp p.blk) → Q (.returned v') w') : Calls P f args'.toArray w Q := by
  obtain ⟨ps, hl, hR, hB⟩ := lend_ok hm args 0 hA hc hargs
  let rl : Ren := fun i => (ps[i]?).map some
  let K : Nat → Prop := fun j => keep j ∨ ∃ b p, r b = some (some p) ∧ p.blk = j
  let kp : Keep := ⟨K, K, fun _ h => h⟩
  have hrl : ∀ {i : Nat} {p : Place}, rl i = some (some p) → ps[i]? = some p := fun {i p} hi => by
    simp only [rl] at hi
    cases hx : ps[i]? with
    | none => rw [hx] at hi; cases hi
    | some q => rw [hx] at hi; simpa using hi
  have hsm : MemRel w kp rl ms w := by
    refine ⟨rfl, rfl, rfl, Nat.le_refl _, Nat.le_refl _, fun j hj => ?_, fun _ _ => rfl, fun b hb => ?_, fun b hb => ?_, fun b p hb => ?_, fun b p hb hp => ?_, fun b p hb hp hz => ?_, fun b p hb hp hz => ?_, fun b c p q hb hc hp hz => ?_, fun b c p q hb hc hp hq he => ?_⟩
    · rcases hj with hj | ⟨b, p, hb, rfl⟩
      · have := hm.klt j hj; have := hm.size; omega
      · obtain ⟨k, _, hk⟩ := hm.blk b p hb
        exact hk.lt
    · simp only [rl]
      cases hx : ps[b]? with
      | none => rfl
      | some p =>
        obtain ⟨_, _, _, kk, h5, h6⟩ := hB b p hx
        rw [h5] at hb
        rcases hb with hb | hb
        · cases hb
        · simp only [Option.some.injEq] at hb
          subst hb
          exact ((h6 rl) : False).elim
    · simp only [rl] at hb
      cases hx : ps[b]? with
      | none => rw [hx] at hb; cases hb
      | some p => rw [hx] at hb; cases hb
    · obtain ⟨_, _, _, kk, h5, h6⟩ := hB b p (hrl hb)
      exact ⟨kk, h5, h6 rl⟩
    · rw [(hB b p (hrl hb)).1] at hp; cases hp
    · exact Or.inr (hB b p (hrl hb)).2.2.1
    · exact absurd (hB b p (hrl hb)).2.1 hz
    · exact absurd (hB b p (hrl hb)).2.1 hz
    · rw [(hB b p (hrl hb)).1] at hp; cases hp
  refine (hS.2 w kp rl args' w (hR rl fun i p hp => by simp only [Nat.zero_add, rl, hp]; rfl) hsm).mono ?_
  rintro e w' ⟨v', rs, rfl, g1, g2, g3⟩
  exact hQ v' rs w' kp g1 g2 (fun j hj => Or.inl hj) (fun b p hb => Or.inr ⟨b, p, hb, rfl⟩)
theorem lendG_ok {P : Program} {f : FuncId} {S : List Value → Mem → Option (Ans (Value × Mem))} (h : ∀ args m ans v m', S args m = some ans → ans.res = some (v, m') → MemSem P f args m v m') {args : List Value} {m m' : Mem} {ans : Ans (Value × Mem)} {v : Value}
    (ha : lendG S args m = some ans) (hr : ans.res = some (v, m')) : MemSem P f args m v m' := by
  unfold lendG at ha
  split at ha
  rotate_left
  · cases ha
  rename_i ags ms c hA
  rw [forceL_eq, forceM_eq] at ha
  split at ha
  rotate_left
  · cases ha
  rename_i ans0 hS
  simp only [Option.some.injEq] at ha
  subst ha
  rcases Ans.br_some hr with ⟨hc, hr⟩ | ⟨_, hr⟩
  rotate_left
  · simp [Ans.res] at hr
  obtain ⟨⟨u, mu⟩, h1, h2⟩ := Ans.bind_some hr
  simp only at h2
  rw [forceN_eq] at h2
  split at h2
  rotate_left
  · simp [Ans.res] at h2
  rename_i hb
  rw [Bool.and_eq_true] at hb
  rw [forceM_eq] at h2
  split at h2
  rotate_left
  · simp [Ans.res] at h2
  rename_i hown
  simp only [Ans.res, Option.some.injEq, Prod.mk.injEq] at h2
  obtain ⟨rfl, rfl⟩ := h2
  have hS := h _ _ _ _ _ hS h1
  refine ⟨hS.1, fun w0 keep r args' w hargs hm => lend_call hA hc hS hargs hm fun v' rs w' kp g1 g2 k1 k2 => ?_⟩
  obtain ⟨j1, j2⟩ := MemRel.join hm (MemRel_via g2 hb.1) k1 k2 hown
  exact ⟨v', _, rfl, R_back (r := r) (ks := []) rfl rfl (R_via (ks := fromN ms.length (mu.length - ms.length)) g1), j1, j2⟩
def lendF (S : List Value → Mem → Option (Ans (Value × Mem))) (args : List Value) (m : Mem) : Option (Ans (Value × Mem)) := forceM (thaw (killV m)) fun m => lendG S args m
theorem lendF_ok {P : Program} {f : FuncId} {S : List Value → Mem → Option (Ans (Value × Mem))} (h : ∀ args m ans v m', S args m = some ans → ans.res = some (v, m') → MemSem P f args m v m') {args : List Value} {m m' : Mem} {ans : Ans (Value × Mem)} {v : Value}
    (ha : lendF S args m = some ans) (hr : ans.res = some (v, m')) : MemSem P f args m v m' := by
  unfold lendF at ha
  rw [forceM_eq] at ha
  exact (lendG_ok h ha hr).fresh
/-- What is told of a function, told where it is lent what it reads. -/
def Cx.lend (C : Cx) (f : FuncId) : Cx := C.addM f (lendF fun args m => C.tbm f args m)
theorem Cx.lend_ok {C : Cx} (hC : CxOk C) (f : FuncId) : CxOk (C.lend f) :=
  Cx.addM_ok hC fun _ _ _ _ _ ha hr => lendF_ok (fun args m ans v m' h hr => hC.tbm f args m ans v m' h hr) ha hr
/-- A call that makes nothing and changes nothing. -/
def lendP (S : List Value → Mem → Option (Ans (Value × Mem))) (args : List Value) (m : Mem) : Option (Ans (Value × Mem)) := match lendA m args 0 with
  | some (ags, ms, c) => forceL ags fun ags => forceM ms fun ms => match S ags ms with
    | some ans => some (.br c (ans.bind fun vm => match plain vm.1 with
      | true => .out (vm.1, m)
      | false => .fail) .fail)
    | none => none
  | none => none
theorem lendP_spec {S : List Value → Mem → Option (Ans (Value × Mem))} {args : List Value} {m m' : Mem} {ans : Ans (Value × Mem)} {v : Value} (ha : lendP S args m = some ans) (hr : ans.res = some (v, m')) :
    m' = m ∧ ∃ ags ms mu a0, lendA m args 0 = some (ags, ms, true) ∧ S ags ms = some a0 ∧ a0.res = some (v, mu) ∧ plain v = true := by
  unfold lendP at ha
  split at ha
  rotate_left
  · cases ha
  rename_i ags ms c hA
  rw [forceL_eq, forceM_eq] at ha
  split at ha
  rotate_left
  · cases ha
  rename_i ans0 hS
  simp only [Option.some.injEq] at ha
  subst ha
  rcases Ans.br_some hr with ⟨hc, hr⟩ | ⟨_, hr⟩
  rotate_left
  · simp [Ans.res] at hr
  obtain ⟨⟨u, mu⟩, h1, h2⟩ := Ans.bind_some hr
  simp only at h2
  split at h2
  · rename_i hp
    simp only [Ans.res, Option.some.injEq, Prod.mk.injEq] at h2
    obtain ⟨rfl, rfl⟩ := h2
    exact ⟨rfl, ags, ms, mu, ans0, by rw [hA, hc], hS, h1, hp⟩
  · simp [Ans.res] at h2
theorem lendP_ok {P : Program} {f : FuncId} {S : List Value → Mem → Option (Ans (Value × Mem))} (h : ∀ args m ans v m', S args m = some ans → ans.res = some (v, m') → MemSem P f args m v m') {args : List Value} {m m' : Mem} {ans : Ans (Value × Mem)} {v : Value}
    (ha : lendP S args m = some ans) (hr : ans.res = some (v, m')) : MemSem P f args m v m' := by
  obtain ⟨rfl, ags, ms, mu, a0, hA, hS, h1, hp⟩ := lendP_spec ha hr
  have hS := h _ _ _ _ _ hS h1
  refine ⟨hS.1, fun w0 keep r args' w hargs hm => lend_call hA rfl hS hargs hm fun v' rs w' kp g1 g2 k1 k2 => ?_⟩
  obtain ⟨j1, j2⟩ := MemRel.join hm (MemRel_via (ks := []) g2 rfl) k1 k2 rfl
  simp only [renM, mapB, List.append_nil] at j1
  exact ⟨v', _, rfl, (R_plain hp).2 ((R_plain hp).1 g1), j1, j2⟩
theorem lendA_set {m : Mem} {q : Nat} {k : Blk} (hq : m[q]? = some .no) : ∀ (args : List Value) (i : Nat) (x : List Value × Mem × Bool), lendA m args i = some x → lendA (m.set q k) args i = some x
  | [], _, _, h => h
  | v :: l, i, x, h => by
    simp only [lendA] at h ⊢
    split at h
    · rename_i b j n e hv
      split at h
      · rename_i e2 n2 row hrow
        have hne : q ≠ b := fun e => by subst e; rw [hq] at hrow; cases hrow
        rw [List.getElem?_set_ne hne, hrow]
        simp only
        split at h
        · rename_i he
          try simp only [he]
          split at h
          · rename_i a1 m1 c1 hl
            rw [lendA_set hq l (i + 1) _ hl]
            exact h
          · cases h
        · cases h
      · cases h
    · split at h
      · rename_i hp
        try simp only [hp]
        split at h
        · rename_i a1 m1 c1 hl
          rw [lendA_set hq l i _ hl]
          exact h
        · cases h
      · cases h
theorem lendP_rd {S : List Value → Mem → Option (Ans (Value × Mem))} {args : List Value} {m m' : Mem} {ans : Ans (Value × Mem)} {v : Value} (ha : lendP S args m = some ans) (hr : ans.res = some (v, m')) :
    m' = m ∧ ∀ (q : Nat) k, m[q]? = some .no → ∃ ans', lendP S args (m.set q k) = some ans' ∧ ans'.res = some (v, m.set q k) := by
  obtain ⟨e, ags, ms, mu, a0, hA, hS, h1, hp⟩ := lendP_spec ha hr
  refine ⟨e, fun q k hq => ?_⟩
  unfold lendP
  rw [lendA_set hq args 0 _ hA]
  simp only [forceL_eq, forceM_eq, hS]
  refine ⟨_, rfl, ?_⟩
  simp only [Ans.res]
  rw [Ans.res_bind, h1]
  simp only [Option.bind_some, hp]
  rfl
end Go.Proofs.Ytneaibkfglfpaaa.Vx


namespace Go.Proofs.Ytneaibkfglfpaaa.Vx
open Go Go.RowKit
/-- One road of a tree; on the others nothing is told. -/
def pickA {α : Type} : List Bool → Ans α → Ans α
  | true :: p, .br b t _ => .br b (pickA p t) .fail
  | false :: p, .br b _ f => .br b .fail (pickA p f)
  | _, x => x
theorem pickA_ok {α : Type} {a : α} : ∀ (p : List Bool) (x : Ans α), (pickA p x).res = some a → x.res = some a
  | [], x, h => by cases x <;> exact h
  | true :: p, .br b t f, h => by
    rcases Ans.br_some h with ⟨hb, h1⟩ | ⟨hb, h1⟩
    · subst hb; exact pickA_ok p t h1
    · simp [Ans.res] at h1
  | false :: p, .br b t f, h => by
    rcases Ans.br_some h with ⟨hb, h1⟩ | ⟨hb, h1⟩
    · simp [Ans.res] at h1
    · subst hb; exact pickA_ok p f h1
  | true :: p, .out a, h => h
  | false :: p, .out a, h => h
  | true :: p, .fail, h => h
  | false :: p, .fail, h => h
/-- No error; yes. -/
def asm1 : Value → Bool × Value
  | .int k e => (e == 0, .int k 0)
  | .bool b => (b, .bool true)
  | v => (true, v)
def asmV : Value → Bool × Value
  | .tuple vs => match vs.toList with
    | [a, b] => ((asm1 b).1, .tuple #[a, (asm1 b).2])
    | [a, b, c] => ((asm1 c).1, .tuple #[a, b, (asm1 c).2])
    | _ => (true, .tuple vs)
  | v => asm1 v
theorem asm1_ok {v : Value} (h : (asm1 v).1 = true) : (asm1 v).2 = v := by
  cases v with
  | int k e => simp only [asm1] at h ⊢; rw [(beq_iff_eq.1 h)]
  | bool b => simp only [asm1] at h ⊢; rw [h]
  | _ => rfl
theorem asmV_ok {v : Value} (h : (asmV v).1 = true) : (asmV v).2 = v := by
  cases v with
  | tuple vs =>
    unfold asmV at h ⊢
    simp only at h ⊢
    split at h
    · rename_i a b he
      rw [asm1_ok h]
      congr 1
      rw [← he]
    · rename_i a b c he
      rw [asm1_ok h]
      congr 1
      rw [← he]
    · rfl
  | int k e => exact asm1_ok (v := .int k e) h
  | bool b => exact asm1_ok (v := .bool b) h
  | _ => rfl
def asmA (x : Ans (Value × Mem)) : Ans (Value × Mem) := x.bind fun vm => .br (asmV vm.1).1 (.out ((asmV vm.1).2, vm.2)) .fail
theorem asmA_ok {x : Ans (Value × Mem)} {v : Value} {m : Mem} (h : (asmA x).res = some (v, m)) : x.res = some (v, m) := by
  obtain ⟨⟨u, mu⟩, h1, h2⟩ := Ans.bind_some h
  rcases Ans.br_some h2 with ⟨hb, h3⟩ | ⟨_, h3⟩
  · simp only [Ans.res, Option.some.injEq, Prod.mk.injEq] at h3
    obtain ⟨rfl, rfl⟩ := h3
    rw [h1, asmV_ok hb]
  · simp [Ans.res] at h3
/-- A function of which one road is wanted, with no error; it is lent what it reads. -/
def Cx.good (C : Cx) (f : FuncId) (p : List Bool) : Cx := C.addM f (lendF fun args m => match C.tbm f args m with
  | some ans => some (asmA (pickA p ans))
  | none => none)
theorem Cx.good_ok {C : Cx} (hC : CxOk C) (f : FuncId) (p : List Bool) : CxOk (C.good f p) :=
  Cx.addM_ok hC fun _ _ _ _ _ ha hr => lendF_ok (fun args m ans v m' h hr => by
    split at h
    · rename_i a0 h0
      simp only [Option.some.injEq] at h
      subst h
      exact hC.tbm f args m a0 v m' h0 (pickA_ok p a0 (asmA_ok hr))
    · cases h) ha hr
/-- The same, with what it answers as it is. -/
def Cx.road (C : Cx) (f : FuncId) (p : List Bool) : Cx := C.addM f (lendF fun args m => match C.tbm f args m with
  | some ans => some (pickA p ans)
  | none => none)
theorem Cx.road_ok {C : Cx} (hC : CxOk C) (f : FuncId) (p : List Bool) : CxOk (C.road f p) :=
  Cx.addM_ok hC fun _ _ _ _ _ ha hr => lendF_ok (fun args m ans v m' h hr => by
    split at h
    · rename_i a0 h0
      simp only [Option.some.injEq] at h
      subst h
      exact hC.tbm f args m a0 v m' h0 (pickA_ok p a0 hr)
    · cases h) ha hr
/-- A function that only looks (1), or that makes something beside what is there (2). -/
def Cx.roadS (C : Cx) (f : FuncId) (p : List Bool) (args : List Value) (m : Mem) : Option (Ans (Value × Mem)) := match C.tbm f args m with
  | some ans => some (pickA p ans)
  | none => none
theorem Cx.roadS_ok {C : Cx} (hC : CxOk C) {f : FuncId} {p : List Bool} (args : List Value) (m : Mem) (ans : Ans (Value × Mem)) (v : Value) (m' : Mem) (h : C.roadS f p args m = some ans) (hr : ans.res = some (v, m')) : MemSem C.P f args m v m' := by
  unfold Cx.roadS at h
  split at h
  · rename_i a0 h0
    simp only [Option.some.injEq] at h
    subst h
    exact hC.tbm f args m a0 v m' h0 (pickA_ok p a0 hr)
  · cases h
def Cx.putRd (C : Cx) (f : FuncId) (z : Nat) (F : List Value → Mem → Option (Ans (Value × Mem))) : Cx := { C with
  tbm := fun g args m => match Nat.beq g f with
    | true => F args m
    | false => C.tbm g args m
  rd := fun g => match Nat.beq g f with
    | true => z
    | false => C.rd g
  inl := fun g => match Nat.beq g f with
    | true => none
    | false => C.inl g }
theorem Cx.putRd_ok {C : Cx} (hC : CxOk C) {f : FuncId} {z : Nat} {F : List Value → Mem → Option (Ans (Value × Mem))} (h0 : ∀ args m ans v m', F args m = some ans → ans.res = some (v, m') → MemSem C.P f args m v m')
    (h1 : z = 1 → ∀ args m ans v m', F args m = some ans → ans.res = some (v, m') → m' = m ∧ ∀ (q : Nat) k, m[q]? = some .no → ∃ ans', F args (m.set q k) = some ans' ∧ ans'.res = some (v, m.set q k))
    (h2 : z = 2 → ∀ args m ans v m', F args m = some ans → ans.res = some (v, m') → ∃ new, m' = m ++ new ∧ ∀ (q : Nat) k, noViewB k = true → m[q]? = some .no → ∃ ans', F args (m.set q k) = some ans' ∧ ans'.res = some (v, m.set q k ++ new)) : CxOk (C.putRd f z F) := by
  refine ⟨hC.mixed, hC.tbl, ?_, hC.keys, fun g fn hg => ?_, hC.lp, ?_, ?_⟩
  rotate_left
  · simp only [Cx.putRd] at hg
    cases hb : Nat.beq g f with
    | true => simp only [hb] at hg; cases hg
    | false => simp only [hb] at hg; exact hC.inl g fn hg
  rotate_right
  · intro g args m ans v m' ha hr
    simp only [Cx.putRd] at ha
    cases hg : Nat.beq g f with
    | false => simp only [hg] at ha; exact hC.tbm g args m ans v m' ha hr
    | true =>
      have hgf := Nat.eq_of_beq_eq_true hg
      subst hgf
      simp only [hg] at ha
      exact h0 args m ans v m' ha hr
  · intro g hg args m ans v m' ha hr
    simp only [Cx.putRd] at hg ha ⊢
    cases hb : Nat.beq g f with
    | false => simp only [hb] at hg ha ⊢; exact hC.rd g hg args m ans v m' ha hr
    | true => simp only [hb] at hg ha ⊢; exact h1 hg args m ans v m' ha hr
  · intro g hg args m ans v m' ha hr
    simp only [Cx.putRd] at hg ha ⊢
    cases hb : Nat.beq g f with
    | false => simp only [hb] at hg ha ⊢; exact hC.rd2 g hg args m ans v m' ha hr
    | true => simp only [hb] at hg ha ⊢; exact h2 hg args m ans v m' ha hr
def Cx.looks (C : Cx) (f : FuncId) (p : List Bool) : Cx := C.putRd f 1 (lendP (C.roadS f p))
theorem Cx.looks_ok {C : Cx} (hC : CxOk C) (f : FuncId) (p : List Bool) : CxOk (C.looks f p) :=
  Cx.putRd_ok hC (fun _ _ _ _ _ ha hr => lendP_ok (Cx.roadS_ok hC) ha hr) (fun _ _ _ _ _ _ ha hr => lendP_rd ha hr) (fun h => by cases h)
def Cx.makes (C : Cx) (f : FuncId) (p : List Bool) : Cx := C.putRd f 2 (lendG (C.roadS f p))
end Go.Proofs.Ytneaibkfglfpaaa.Vx


namespace Go.Proofs.Ytneaibkfglfpaaa.Vx
open Go Go.RowKit
theorem CodeSem.seq {P : Program} {B : Nat} {x y : Code} {st s s' : St} {e : Exit} (h1 : CodeSem P B x st .normal s) (h2 : CodeSem P B y s e s') : CodeSem P B (.seq x y) st e s' := fun Q w0 keep r0 a w hB hQ hr =>
  wp_seq (h1 _ w0 keep r0 a w hB (fun a' w' hr' => h2 Q w0 keep r0 a' w' hB hQ hr') hr)
theorem CodeSem.like {P : Program} {B : Nat} {x : Code} {st st2 s : St} {e : Exit} (h : CodeSem P B x st2 e s) (hl : StLike st st2) : CodeSem P B x st e s := fun Q w0 keep r0 a w hB hQ hr =>
  h Q w0 keep r0 a w hB hQ (hr.like hl)
def seqDrop : Nat → Code → Code
  | 0, c => c
  | k + 1, .seq _ y => seqDrop k y
  | _ + 1, _ => .skip
theorem seqDrop_loops : ∀ (k : Nat) (c : Code), ∀ x ∈ loopsIn (seqDrop k c), x ∈ loopsIn c
  | 0, c, x, h => h
  | k + 1, c, x, h => by
    cases c with
    | seq p q => simp only [seqDrop] at h; simp only [loopsIn, List.mem_append]; exact Or.inr (seqDrop_loops k q x h)
    | _ => simp [seqDrop, loopsIn] at h
/-- So many statements, one behind the other. -/
def exSeq (n : Nat) (C : Cx) : Nat → Code → St → Ans St
  | 0, _, st => .out st
  | k + 1, c, st => match c with
    | .seq x y => (exCode n C x st).bind fun es => match es.1 with
      | .normal => exSeq n C k y es.2
      | _ => .fail
    | _ => .fail
theorem exSeq_sound {C : Cx} (hC : CxOk C) {n f B : Nat} {e : Exit} {s' : St} : ∀ (k : Nat) (c : Code) (st s : St), InBody (C.into f B) c → (exSeq n (C.into f B) k c st).res = some s → CodeSem C.P B (seqDrop k c) s e s' → CodeSem C.P B c st e s'
  | 0, c, st, s, _, h, h2 => by
    simp only [exSeq, Ans.res, Option.some.injEq] at h
    subst h
    exact h2
  | k + 1, c, st, s, hin, h, h2 => by
    cases c with
    | seq x y =>
      simp only [exSeq] at h
      obtain ⟨⟨e1, s1⟩, h1, h3⟩ := Ans.bind_some h
      have hx := (exCode_sound hC n).1 f B x (hin.sub fun z hz => by simp [loopsIn, hz]) st e1 s1 h1
      simp only at h3
      cases e1 with
      | normal => exact hx.seq (exSeq_sound hC k y s1 s (hin.sub fun z hz => by simp [loopsIn, hz]) h3 h2)
      | _ => simp [Ans.res] at h3
    | _ => simp [exSeq, Ans.res] at h
/-- A piece: so many statements, and what is told on behind them (slots, blocks). -/
def segR (C : Cx) (n k : Nat) (c : Code) (mask : List Nat) (sp : List From) (st : St) : Option St := ((exSeq n C k c st).bind fun s => (cleanA mask mask sp sp C.fb (.ret, s)).bind fun es => .out es.2).res
theorem seg_rule {C : Cx} (hC : CxOk C) {f B n k : Nat} {c : Code} {mask : List Nat} {sp : List From} {st s s' : St} {e : Exit} (hin : InBody (C.into f B) c) (h : segR (C.into f B) n k c mask sp st = some s) (h2 : CodeSem C.P B (seqDrop k c) s e s') : CodeSem C.P B c st e s' := by
  unfold segR at h
  obtain ⟨s1, h3, h4⟩ := Ans.bind_some h
  obtain ⟨⟨e2, s2⟩, h5, h6⟩ := Ans.bind_some h4
  simp only [Ans.res, Option.some.injEq] at h6
  subst h6
  exact exSeq_sound hC k c st s1 hin h3 fun Q w0 keep r0 a w hB hQ hr => h2 Q w0 keep r0 a w hB hQ (clean_rel h5 hB hr).2
/-- The last piece. -/
theorem end_rule {C : Cx} (hC : CxOk C) {f B n : Nat} {c : Code} {mask : List Nat} {sp : List From} {st s : St} {e : Exit} (hin : InBody (C.into f B) c) (h : roundR (C.into f B) n c mask mask sp sp st = some (e, s)) : CodeSem C.P B c st e s := by
  obtain ⟨⟨e1, s1⟩, h3, h4⟩ := Ans.bind_some h
  intro Q w0 keep r0 a w hB hQ hr
  refine (exCode_sound hC n).1 f B c hin _ _ _ h3 _ w0 keep r0 a w hB ?_ hr
  intro a' w' hr'
  obtain ⟨he, hs⟩ := clean_rel h4 hB hr'
  subst he
  exact hQ a' w' hs
def bodyOf (P : Program) (f : Nat) : Code := match P.funcs[f]? with
  | some fn => match fn.body with
    | some b => b
    | none => .skip
  | none => .skip
theorem bodyOf_in {C : Cx} {f B k : Nat} {fn : Func} {b : Code} (hf : C.P.funcs[f]? = some fn) (hb : fn.body = some b) : InBody (C.into f B) (seqDrop k b) :=
  Or.inl ⟨fn, b, hf, hb, seqDrop_loops k b⟩
theorem seqDrop_drop (k l : Nat) : ∀ (c : Code), seqDrop l (seqDrop k c) = seqDrop (k + l) c := by
  induction k with
  | zero => intro c; rw [Nat.zero_add]; rfl
  | succ k ih =>
    intro c
    rw [Nat.succ_add]
    cases c with
    | seq p q => simp only [seqDrop]; exact ih q
    | _ => simp only [seqDrop]; cases l <;> rfl
/-- No error but this one. -/
def wantV (z : Int) : Value → Bool × Value
  | .int k e => (e == z, .int k z)
  | v => (true, v)
def wantA (z : Int) (x : Ans (Value × Mem)) : Ans (Value × Mem) := x.bind fun vm => .br (wantV z vm.1).1 (.out ((wantV z vm.1).2, vm.2)) .fail
/-- A function of which one road is wanted, with this answer. -/
def Cx.want (C : Cx) (f : FuncId) (p : List Bool) (z : Int) : Cx := C.addM f (lendF fun args m => match C.tbm f args m with
  | some ans => some (wantA z (pickA p ans))
  | none => none)
end Go.Proofs.Ytneaibkfglfpaaa.Vx


namespace Go.Proofs.Ytneaibkfglfpaaa.Vx
open Go Go.RowKit
theorem CodeSem.loop {P : Program} {B : Nat} {x : Code} {st s : St} {e : Exit} (h : LoopSem P B x st e s) : CodeSem P B (.loop x) st e s := fun Q w0 keep r0 a w hB hQ hr => (h Q w0 keep r0 a w hB hQ hr).wp
theorem CodeSem.block {P : Program} {B id : Nat} {x : Code} {st s : St} (h : CodeSem P B x st (.exit id) s) : CodeSem P B (.block id x) st .normal s := fun Q w0 keep r0 a w hB hQ hr =>
  wp_block (h _ w0 keep r0 a w hB (fun a' w' hr' => by
    simp only [Exit.inBlock]
    rw [if_pos trivial]
    exact hQ a' w' hr') hr)
/-- The k-th statement. -/
def stmt (k : Nat) (c : Code) : Code := match seqDrop k c with
  | .seq x _ => x
  | _ => .skip
def hasStmt (k : Nat) (c : Code) : Bool := match seqDrop k c with
  | .seq _ _ => true
  | _ => false
theorem stmt_rule {P : Program} {B k : Nat} {c : Code} {st s s' : St} {e : Exit} (hk : hasStmt k c = true) (h1 : CodeSem P B (stmt k c) st .normal s) (h2 : CodeSem P B (seqDrop (k + 1) c) s e s') : CodeSem P B (seqDrop k c) st e s' := by
  unfold hasStmt at hk
  unfold stmt at h1
  have e2 := seqDrop_drop k 1 c
  cases hc : seqDrop k c with
  | seq x y =>
    rw [hc] at h1 e2
    simp only [seqDrop] at e2
    rw [← e2] at h2
    exact h1.seq h2
  | _ => rw [hc] at hk; cases hk
/-- A 'for': what is ahead of it, then the loop. -/
def forHead : Code → Code
  | .seq x _ => x
  | _ => .skip
def forBody : Code → Code
  | .seq _ (.block _ (.loop x)) => x
  | _ => .skip
def isFor (id : Nat) : Code → Bool
  | .seq _ (.block i (.loop _)) => Nat.beq i id
  | _ => false
theorem for_rule {P : Program} {B id : Nat} {c : Code} {st s s' : St} (hf : isFor id c = true) (h1 : CodeSem P B (forHead c) st .normal s) (h2 : LoopSem P B (forBody c) s (.exit id) s') : CodeSem P B c st .normal s' := by
  unfold isFor at hf
  split at hf
  · rename_i x i y
    have := Nat.eq_of_beq_eq_true hf
    subst this
    exact h1.seq (CodeSem.block (CodeSem.loop h2))
  · cases hf
theorem for_in {C : Cx} {f B id k : Nat} {fn : Func} {b : Code} (hf : C.P.funcs[f]? = some fn) (hb : fn.body = some b) (hs : isFor id (stmt k b) = true) : InBody (C.into f B) (forHead (stmt k b)) ∧ InBody (C.into f B) (forBody (stmt k b)) := by
  have h0 : ∀ x ∈ loopsIn (stmt k b), x ∈ loopsIn b := fun x hx => by
    refine seqDrop_loops k b x ?_
    unfold stmt at hx
    cases hc : seqDrop k b with
    | seq p q => rw [hc] at hx; simp only at hx; simp [loopsIn, hx]
    | _ => rw [hc] at hx; simp [loopsIn] at hx
  unfold isFor at hs
  split at hs
  · rename_i x i y hst
    rw [hst] at h0 ⊢
    refine ⟨Or.inl ⟨fn, b, hf, hb, fun z hz => h0 z (by simp only [forHead] at hz; simp [loopsIn, hz])⟩, Or.inl ⟨fn, b, hf, hb, fun z hz => h0 z (by simp only [forBody] at hz; simp [loopsIn, hz])⟩⟩
  · cases hs
/-- A function that only looks, with no error, or yes. -/
def Cx.looksG (C : Cx) (f : FuncId) (p : List Bool) : Cx := C.putRd f 1 (lendP fun args m => match C.tbm f args m with
  | some ans => some (asmA (pickA p ans))
  | none => none)
theorem Cx.looksG_ok {C : Cx} (hC : CxOk C) (f : FuncId) (p : List Bool) : CxOk (C.looksG f p) :=
  Cx.putRd_ok hC (fun _ _ _ _ _ ha hr => lendP_ok (fun args m ans v m' h hr => by
    split at h
    · rename_i a0 h0
      simp only [Option.some.injEq] at h
      subst h
      exact hC.tbm f args m a0 v m' h0 (pickA_ok p a0 (asmA_ok hr))
    · cases h) ha hr) (fun _ _ _ _ _ _ ha hr => lendP_rd ha hr) (fun h => by cases h)
end Go.Proofs.Ytneaibkfglfpaaa.Vx


namespace Go.Proofs.Ytneaibkfglfpaaa
open Go Vx

def Cw0 (P : Program) : Cx := Cpb P
theorem okw0 : CxOk (Cw0 Try.prog) := okpb
/-- op.Apply -/
theorem ew1 (a0 a1 a2 a3 a4 a5 a6 a7 a8 a9 a10 a11 b0 b1 b2 b3 : Int) : exFun ((Cw0 Try.prog).at 31) 60 Try.f31 (pack [some 12, some 4] [a0, a1, a2, a3, a4, a5, a6, a7, a8, a9, a10, a11, b0, b1, b2, b3]) = tOApplyN ⟨⟨a0, a1, a2, a3, a4, a5, a6, a7, a8⟩, ⟨a9, a10, a11⟩⟩ ⟨b0, ⟨b1, b2, b3⟩⟩ := by kernel_rfl
def Fw_30 : List Int → Option Value
  | [a0, a1, a2, a3, a4, a5, a6, a7, a8, a9, a10, a11, b0, b1, b2, b3] => some (fOApply ⟨⟨a0, a1, a2, a3, a4, a5, a6, a7, a8⟩, ⟨a9, a10, a11⟩⟩ ⟨b0, ⟨b1, b2, b3⟩⟩)
  | _ => none
def Cw1 (P : Program) : Cx := (Cw0 P).add 31 [some 12, some 4] Fw_30
theorem okw1 : CxOk (Cw1 Try.prog) := Cx.add_ok okw0 (n := 60) Try.func31 (by kernel_rfl) fun l v hl h => by
  match l, hl, h with
  | [a0, a1, a2, a3, a4, a5, a6, a7, a8, a9, a10, a11, b0, b1, b2, b3], _, hh => rw [ew1, tOApplyN_eq]; exact hh
/-- frac.Order -/
theorem ew2 (a0 a1 a2 a3 b0 b1 b2 b3 : Int) : exFun ((Cw1 Try.prog).at 32) 60 Try.f32 (pack [some 4, some 4] [a0, a1, a2, a3, b0, b1, b2, b3]) = tPOrd ⟨a0, ⟨a1, a2, a3⟩⟩ ⟨b0, ⟨b1, b2, b3⟩⟩ := by kernel_rfl
def Fw_31 : List Int → Option Value
  | [a0, a1, a2, a3, b0, b1, b2, b3] => some (fPOrd ⟨a0, ⟨a1, a2, a3⟩⟩ ⟨b0, ⟨b1, b2, b3⟩⟩)
  | _ => none
def Cw2 (P : Program) : Cx := (Cw1 P).add 32 [some 4, some 4] Fw_31
theorem okw2 : CxOk (Cw2 Try.prog) := Cx.add_ok okw1 (n := 60) Try.func32 (by kernel_rfl) fun l v hl h => by
  match l, hl, h with
  | [a0, a1, a2, a3, b0, b1, b2, b3], _, hh => rw [ew2, tPOrd_eq]; exact hh
/-- orbit.compare -/
theorem ew3 (a0 a1 a2 a3 b0 b1 b2 b3 : Int) : exFun ((Cw2 Try.prog).at 63) 60 Try.f63 (pack [some 4, some 4] [a0, a1, a2, a3, b0, b1, b2, b3]) = tPCmp ⟨a0, ⟨a1, a2, a3⟩⟩ ⟨b0, ⟨b1, b2, b3⟩⟩ := by kernel_rfl
def Fw_58 : List Int → Option Value
  | [a0, a1, a2, a3, b0, b1, b2, b3] => some (fPCmp ⟨a0, ⟨a1, a2, a3⟩⟩ ⟨b0, ⟨b1, b2, b3⟩⟩)
  | _ => none
def Cw3 (P : Program) : Cx := (Cw2 P).add 63 [some 4, some 4] Fw_58
theorem okw3 : CxOk (Cw3 Try.prog) := Cx.add_ok okw2 (n := 60) Try.func63 (by kernel_rfl) fun l v hl h => by
  match l, hl, h with
  | [a0, a1, a2, a3, b0, b1, b2, b3], _, hh => rw [ew3, tPCmp_eq]; exact hh
/-- orbit.checkPlace -/
theorem ew4 (a0 a1 a2 a3 : Int) : exFun ((Cw3 Try.prog).at 73) 60 Try.f73 (pack [some 4] [a0, a1, a2, a3]) = tChkP ⟨a0, ⟨a1, a2, a3⟩⟩ := by kernel_rfl
def Fw_69 : List Int → Option Value
  | [a0, a1, a2, a3] => some (fChkP ⟨a0, ⟨a1, a2, a3⟩⟩)
  | _ => none
def Cw4 (P : Program) : Cx := (Cw3 P).add 73 [some 4] Fw_69
theorem okw4 : CxOk (Cw4 Try.prog) := Cx.add_ok okw3 (n := 60) Try.func73 (by kernel_rfl) fun l v hl h => by
  match l, hl, h with
  | [a0, a1, a2, a3], _, hh => rw [ew4, tChkP_eq]; exact hh

def CCw (P : Program) : Cx := Cw4 P
theorem okCw : CxOk (CCw Try.prog) := okw4

end Go.Proofs.Ytneaibkfglfpaaa


namespace Go.Proofs.Ytneaibkfglfpaaa
open Go Vx

theorem hit0 {β : Type} {e : β → β → Bool} (he : ∀ x y, e x y = true ↔ x = y) {k : β} : ∀ {ds : List β}, k ∉ ds → (ds.map fun d => (bif e k d then 1 else 0)).sum = 0
  | [], _ => rfl
  | d :: ds, h => by
    have h1 : e k d = false := by
      cases hk : e k d with
      | false => rfl
      | true => exact absurd (List.mem_cons.2 (Or.inl ((he k d).1 hk))) h
    simp only [List.map_cons, List.sum_cons, h1, cond_false, hit0 he (ds := ds) (fun hm => h (List.mem_cons_of_mem _ hm))]
theorem hit1 {β : Type} {e : β → β → Bool} (he : ∀ x y, e x y = true ↔ x = y) {k : β} : ∀ {ds : List β}, ds.Nodup → k ∈ ds → (ds.map fun d => (bif e k d then 1 else 0)).sum = 1
  | d :: ds, hn, h => by
    rw [List.nodup_cons] at hn
    cases hk : e k d with
    | true =>
      have e1 := (he k d).1 hk
      subst e1
      simp only [List.map_cons, List.sum_cons, hk, cond_true, hit0 he hn.1]
    | false =>
      rcases List.mem_cons.1 h with rfl | h
      · rw [(he k k).2 rfl] at hk; cases hk
      · simp only [List.map_cons, List.sum_cons, hk, cond_false, hit1 he hn.2 h]
theorem sum_two {β : Type} (f g : β → Nat) : ∀ (ds : List β), (ds.map fun d => f d + g d).sum = (ds.map f).sum + (ds.map g).sum
  | [] => rfl
  | d :: ds => by simp only [List.map_cons, List.sum_cons, sum_two f g ds]; omega
theorem sum_same {β : Type} (c : Nat) : ∀ (ds : List β), (ds.map fun _ => c).sum = ds.length * c
  | [] => by simp
  | d :: ds => by simp only [List.map_cons, List.sum_cons, sum_same c ds, List.length_cons]; rw [Nat.add_mul]; omega
theorem sum_zero {β : Type} : ∀ (ds : List β), (ds.map fun _ => 0).sum = 0
  | [] => rfl
  | d :: ds => by simp only [List.map_cons, List.sum_cons, sum_zero ds]
/-- Told apart by a key, the parts of a list count up to the list. -/
theorem count_sum {α β : Type} (r : α → β) (e : β → β → Bool) (he : ∀ x y, e x y = true ↔ x = y) (ds : List β) (hn : ds.Nodup) : ∀ (xs : List α), (∀ x ∈ xs, r x ∈ ds) → (ds.map fun d => (xs.filter fun x => e (r x) d).length).sum = xs.length
  | [], _ => sum_zero ds
  | x :: xs, h => by
    have ih := count_sum r e he ds hn xs fun y hy => h y (List.mem_cons_of_mem _ hy)
    have h1 := hit1 he hn (h x (List.mem_cons_self ..))
    have hf : (fun d => ((x :: xs).filter fun x => e (r x) d).length) = fun d => (bif e (r x) d then 1 else 0) + (xs.filter fun x => e (r x) d).length := by
      funext d
      rw [List.filter_cons]
      cases e (r x) d with
      | true => simp only [if_true, List.length_cons, cond_true]; omega
      | false => simp
    rw [hf, sum_two, h1, ih, List.length_cons]; omega

theorem ckMaps_of {ls : List O3} (hl : ls.length ≤ 192) (h : ∀ o ∈ ls, o.ck = 0) : ckMaps ls = 0 := by
  have key : ∀ (l : List O3), (∀ o ∈ l, o.ck = 0) → leastL l 0 = 0 := by
    intro l
    induction l with
    | nil => intro _; rfl
    | cons o l ih =>
      intro h
      show leastL l (leastN 0 o.ck) = 0
      rw [h o (List.mem_cons_self ..)]
      exact ih fun x hx => h x (List.mem_cons_of_mem _ hx)
  unfold ckMaps
  rw [if_neg (by omega)]
  exact key ls h
theorem mem_clsG {ls : List O3} (h : clsOk ls = true) (g : O3) : g ∈ clsG ls ↔ Gen ls g := by
  rw [show clsG ls = sortO (clG0 ls [O3.one] es1).1 from rfl, (sortO_perm _).mem_iff]
  exact (clsOk_spec h).2.2.2.2.1 g
theorem clsG_strict {ls : List O3} (h : clsOk ls = true) : StrictO (clsG ls) :=
  sorted_strict (sortO_sorted _) ((sortO_perm _).nodup_iff.2 (clsOk_spec h).2.2.1)
theorem clsG_ck {ls : List O3} (h : clsOk ls = true) : ∀ g ∈ clsG ls, g.ck = 0 := fun g hg => (clsOk_spec h).2.2.2.2.2 g ((sortO_perm _).mem_iff.1 hg)
theorem clsG_grp {ls : List O3} (h : clsOk ls = true) : Grp (clsG ls) := by
  have hi := all_inv (clsOk_spec h).2.1
  exact ⟨strict_nodup (clsG_strict h), clsG_ck h, (mem_clsG h _).2 Gen.one, fun a ha b hb => (mem_clsG h _).2 (((mem_clsG h a).1 ha).mul hi ((mem_clsG h b).1 hb))⟩
end Go.Proofs.Ytneaibkfglfpaaa


namespace Go.Proofs.Ytneaibkfglfpaaa
open Go Vx
end Go.Proofs.Ytneaibkfglfpaaa


namespace Go.Proofs.Ytneaibkfglfpaaa
open Go Vx

theorem chk_grp {X : List O3} (h : chkI X = 0) : StrictO X ∧ Grp X ∧ X.length ≤ 192 := by
  unfold chkI at h
  cases hq : clsOk X with
  | false => rw [hq] at h; exact absurd h (clsErr_ne X)
  | true =>
    rw [hq] at h
    simp only at h
    cases hs : sameB (clsG X) X with
    | false => rw [hs] at h; cases h
    | true =>
      have e := sameB_iff.1 hs
      have h1 := clsG_strict hq
      have h2 := clsG_grp hq
      have h3 := clsOk_len hq
      rw [e] at h1 h2 h3
      exact ⟨h1, h2, h3⟩
theorem chk_of {X : List O3} (hs : StrictO X) (hg : Grp X) (hl : X.length ≤ 192) : chkI X = 0 := by
  have hI := grp_self hg.nd hl hg.ck hg.one hg.mul
  have hq : clsOk X = true := by
    unfold clsOk
    rw [ckMaps_of hl hg.ck]
    rcases clR_spec hg.ck with ⟨r, k1, _⟩ | ⟨_, k2⟩
    · rw [k1]; rfl
    · exact absurd k2 hI.not_bad
  obtain ⟨_, _, hg2⟩ := clsOk_spec hq
  have e : clsG X = X := sorted_one (sortO_sorted _) (strict_sorted hs) ((sortO_perm _).trans (hg2.perm hI))
  unfold chkI
  rw [hq]
  simp only
  rw [e, sameB_refl]; rfl
theorem chk_cls {ls : List O3} (h : clsOk ls = true) : chkI (clsG ls) = 0 := chk_of (clsG_strict h) (clsG_grp h) (clsOk_len h)
end Go.Proofs.Ytneaibkfglfpaaa


namespace Go.Proofs.Ytneaibkfglfpaaa
open Go Vx
structure laG where
  (own : Bool) (n : Nat) (xs : List O3) (zs : List O3) (k : Nat) (ys : List O3) (sd : Int) (i : Int)
structure lbG where
  (own : Bool) (n : Nat) (xs : List O3) (zs : List O3) (k : Nat) (ys : List O3) (sd : Int) (i : Int)
end Go.Proofs.Ytneaibkfglfpaaa


namespace Go.Proofs.Ytneaibkfglfpaaa
open Go Vx
structure lcG where
  (sh : Sh) (own : Bool) (n : Nat) (xs : List O3) (n1 : Nat) (r1 : Nat → List Value) (n2 : Nat) (r2 : Nat → List Value) (n3 : Nat) (r3 : Nat → List Value) (n4 : Nat) (r4 : Nat → List Value) (n5 : Nat) (r5 : Nat → List Value) (n6 : Nat) (r6 : Nat → List Value) (sd : Int) (k l13 l15 l17 : Nat) (j : Nat) (ms : List O3) (i : Int)
structure LcB where
  (own : Bool) (n0 : Nat) (r0 : Nat → List Value) (n1 : Nat) (r1 : Nat → List Value) (n2 : Nat) (r2 : Nat → List Value) (n3 : Nat) (r3 : Nat → List Value) (n4 : Nat) (r4 : Nat → List Value) (n5 : Nat) (r5 : Nat → List Value) (n6 : Nat) (r6 : Nat → List Value)
end Go.Proofs.Ytneaibkfglfpaaa


namespace Go.Proofs.Ytneaibkfglfpaaa
open Go Vx
def gn {α : Type} (b : Bool) (x : Option α) : Option α := match b with
  | true => none
  | false => x
theorem gn_false {α : Type} (x : Option α) : gn false x = x := rfl
/-- So many rows are lent. -/
def lk (k : Nat) : Bool := Nat.ble (0 + k) k && true
theorem lk_true (k : Nat) : lk k = true := by unfold lk; rw [Nat.zero_add, Nat.ble_self_eq_true k]; rfl
end Go.Proofs.Ytneaibkfglfpaaa


namespace Go.Proofs.Ytneaibkfglfpaaa
open Go Vx

theorem M3.l_inj {a b : M3} (h : a.l = b.l) : a = b := by
  cases a; cases b; simp [M3.l] at h; simp [h]
end Go.Proofs.Ytneaibkfglfpaaa
