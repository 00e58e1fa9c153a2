/-
  slices.Contains of places, orbit.Same, told. Nothing here is trusted.
-/
import Derived.Test.YtggdbakgiknogaaKam
import Derived.Test.YtggdbakgiknogaaKal
import Derived.Test.YtggdbakgiknogaaKak

namespace Go.Proofs.Ytggdbakgiknogaa
open Go Vx Go.RowKit
def ixF : List Value → Mem → Option (Ans (Value × Mem))
  | [.slice (some ⟨0, 0, some 0⟩) N 4, .agg co], [.rows own true 4 N2 row] => match ptCells co.toList with
    | some v => some (.br (Nat.beq N N2 && (okPts N row && Nat.ble N 1000000)) (.out (vI (ixL v (ptsOf N row) 0), [.rows own true 4 N (ptRow (ptsOf N row))])) .fail)
    | none => none
  | _, _ => none
theorem ixF_ok {args : List Value} {m : Mem} {ans : Ans (Value × Mem)} {v : Value} {m' : Mem} (h : ixF args m = some ans) (hr : ans.res = some (v, m')) : MemSem Try.prog 68 args m v m' := by
  unfold ixF at h
  split at h
  rotate_left
  · cases h
  rename_i N co own N2 row
  split at h
  rotate_left
  · cases h
  rename_i p hp
  simp only [Option.some.injEq] at h
  subst h
  rcases Ans.br_some hr with ⟨hc, hr1⟩ | ⟨_, hr1⟩
  rotate_left
  · simp [Ans.res] at hr1
  simp only [Bool.and_eq_true] at hc
  obtain ⟨c1, c2, c3⟩ := hc
  have c1 := beq_len c1
  subst c1
  have e1 : co = p.cells.toArray := by rw [← ptCells_spec hp]
  subst e1
  have hl := ptsOf_length N row
  simp only [Ans.res, Option.some.injEq, Prod.mk.injEq] at hr1
  obtain ⟨rfl, rfl⟩ := hr1
  have := ixS own (ptsOf N row) p (by rw [hl]; exact Nat.le_of_ble_eq_true c3)
  rw [hl] at this
  exact this.like ⟨.rows (pts_like c2), trivial⟩
def Cix (P : Program) : Cx := ((((CCw P).addF 56 imF).addF 57 srF).addF 59 cmF).addF 68 ixF
theorem okix : CxOk (Cix Try.prog) := Cx.addF_ok (Cx.addF_ok (Cx.addF_ok (Cx.addF_ok okCw fun _ _ _ _ _ h hr => imF_ok h hr) fun _ _ _ _ _ h hr => srF_ok h hr) fun _ _ _ _ _ h hr => cmF_ok h hr) fun _ _ _ _ _ h hr => ixF_ok h hr
def ixT (n : Nat) (Y : List P3) : Bool := Nat.beq n n && (okPts n (ptRow Y) && Nat.ble n 1000000)
theorem ixT_ok {Y : List P3} (h : Y.length ≤ 1000000) : ixT Y.length Y = true := by
  unfold ixT
  rw [Nat.beq_refl, okPts_ptRow, Nat.ble_eq_true_of_le h]
  rfl
def cnB (v : P3) (Y : List P3) : Bool := decide (ixL v Y 0 ≥ 0)
theorem cnE (own : Bool) (n : Nat) (Y : List P3) (v : P3) : exT (((Cix Try.prog).lend 68).at 70) 60 Try.f70 [.slice (some ⟨0, 0, some 0⟩) n 4, v.v] [.rows own true 4 n (ptRow Y)] [.fix 0] =
    gd (lk n) (gd (ixT n Y) (some (.bool (cnB v (ptsOf n (ptRow Y))), [.rows own true 4 n (ptRow Y)]))) := by kernel_rfl
theorem cnS (own : Bool) (Y : List P3) (v : P3) (hn : Y.length ≤ 1000000) : MemSem Try.prog 70 [.slice (some ⟨0, 0, some 0⟩) Y.length 4, v.v] [.rows own true 4 Y.length (ptRow Y)] (.bool (cnB v Y)) [.rows own true 4 Y.length (ptRow Y)] := by
  have hE := cnE own Y.length Y v
  rw [lk_true, ixT_ok hn, ptsOf_row rfl] at hE
  exact exT_ok (Cx.lend_ok okix 68) Try.func70 (by kernel_rfl) hE
def cnF : List Value → Mem → Option (Ans (Value × Mem))
  | [.slice (some ⟨0, 0, some 0⟩) N 4, .agg co], [.rows own true 4 N2 row] => match ptCells co.toList with
    | some v => some (.br (Nat.beq N N2 && (okPts N row && Nat.ble N 1000000)) (.out (.bool (cnB v (ptsOf N row)), [.rows own true 4 N (ptRow (ptsOf N row))])) .fail)
    | none => none
  | _, _ => none
theorem cnF_ok {args : List Value} {m : Mem} {ans : Ans (Value × Mem)} {v : Value} {m' : Mem} (h : cnF args m = some ans) (hr : ans.res = some (v, m')) : MemSem Try.prog 70 args m v m' := by
  unfold cnF at h
  split at h
  rotate_left
  · cases h
  rename_i N co own N2 row
  split at h
  rotate_left
  · cases h
  rename_i p hp
  simp only [Option.some.injEq] at h
  subst h
  rcases Ans.br_some hr with ⟨hc, hr1⟩ | ⟨_, hr1⟩
  rotate_left
  · simp [Ans.res] at hr1
  simp only [Bool.and_eq_true] at hc
  obtain ⟨c1, c2, c3⟩ := hc
  have c1 := beq_len c1
  subst c1
  have e1 : co = p.cells.toArray := by rw [← ptCells_spec hp]
  subst e1
  have hl := ptsOf_length N row
  simp only [Ans.res, Option.some.injEq, Prod.mk.injEq] at hr1
  obtain ⟨rfl, rfl⟩ := hr1
  have := cnS own (ptsOf N row) p (by rw [hl]; exact Nat.le_of_ble_eq_true c3)
  rw [hl] at this
  exact this.like ⟨.rows (pts_like c2), trivial⟩
/-! orbit.Same -/
def Csg (P : Program) : Cx := (((Cix P).addF 70 cnF).good 56 [true, false]).looks 70 [true]
theorem oksg : CxOk (Csg Try.prog) := Cx.looks_ok (Cx.good_ok (Cx.addF_ok okix fun _ _ _ _ _ h hr => cnF_ok h hr) _ _) _ _
def Cse (P : Program) : Cx := (((Cix P).addF 70 cnF).road 56 [true, true]).looks 70 [true]
theorem okse : CxOk (Cse Try.prog) := Cx.looks_ok (Cx.road_ok (Cx.addF_ok okix fun _ _ _ _ _ h hr => cnF_ok h hr) _ _) _ _
def bE (b : Bool) (e : Int) : Value := .tuple #[.bool b, vI e]
theorem smE1 (own : Bool) (n : Nat) (xs : List O3) (p q : P3) : exT ((Csg Try.prog).at 33) 60 Try.f33 [.slice (some ⟨0, 0, some 0⟩) n 12, p.v, q.v] [.rows own true 12 n (opRow xs)] [.fix 0] =
    gd (lk n) (gd (oT n (opRow xs)) (gn (leastN (chkI (opsOf n (opRow xs))) p.ckP != 0) (match leastN 0 q.ckP != 0 with
      | true => some (bE false (leastN 0 q.ckP), [.rows own true 12 n (opRow xs)])
      | false => match p.m != q.m with
        | true => some (bE false 6, [.rows own true 12 n (opRow xs)])
        | false => gd (lk n) (gd (ixT n (imgs (opsOf n (opRow xs)) p)) (some (bE (cnB q (ptsOf n (ptRow (imgs (opsOf n (opRow xs)) p)))) 0, [.rows own true 12 n (opRow xs)])))))) := by kernel_rfl
theorem smE2 (own : Bool) (n : Nat) (xs : List O3) (p q : P3) : exT ((Cse Try.prog).at 33) 60 Try.f33 [.slice (some ⟨0, 0, some 0⟩) n 12, p.v, q.v] [.rows own true 12 n (opRow xs)] [.fix 0] =
    gd (lk n) (gd (oT n (opRow xs)) (gd (leastN (chkI (opsOf n (opRow xs))) p.ckP != 0) (match leastN (leastN (chkI (opsOf n (opRow xs))) p.ckP) q.ckP != 0 with
      | true => some (bE false (leastN (leastN (chkI (opsOf n (opRow xs))) p.ckP) q.ckP), [.rows own true 12 n (opRow xs)])
      | false => match p.m != q.m with
        | true => some (bE false 6, [.rows own true 12 n (opRow xs)])
        | false => none))) := by kernel_rfl
def samV (X : List O3) (p q : P3) : Bool := bif leastN (leastN (chkI X) p.ckP) q.ckP == 0 && p.m == q.m then cnB q (imgs X p) else false
def samE (X : List O3) (p q : P3) : Int := bif leastN (leastN (chkI X) p.ckP) q.ckP == 0 then (bif p.m == q.m then 0 else 6) else leastN (leastN (chkI X) p.ckP) q.ckP
theorem samS (own : Bool) (X : List O3) (p q : P3) : MemSem Try.prog 33 [.slice (some ⟨0, 0, some 0⟩) X.length 12, p.v, q.v] [.rows own true 12 X.length (opRow X)] (bE (samV X p q) (samE X p q)) [.rows own true 12 X.length (opRow X)] := by
  have to : oT X.length (opRow X) = true := by unfold oT; rw [Nat.beq_refl, okOps_opRow]; rfl
  unfold samV samE
  by_cases h1 : leastN (chkI X) p.ckP = 0
  · have hE := smE1 own X.length X p q
    have hl := (chk_len (leastN_zero.1 h1).1).1
    have hi : (imgs X p).length = X.length := by simp [imgs]
    have ti : ixT X.length (imgs X p) = true := by rw [← hi]; exact ixT_ok (by omega)
    rw [lk_true, to, opsOf_row rfl, ti, ptsOf_row hi, show (leastN (chkI X) p.ckP != 0) = false by simpa using h1] at hE
    simp only [gd_true, gn_false] at hE
    rw [h1]
    by_cases h2 : leastN 0 q.ckP = 0
    · rw [show (leastN 0 q.ckP != 0) = false by simpa using h2] at hE
      rw [h2]
      by_cases h3 : p.m = q.m
      · rw [show (p.m != q.m) = false by simpa using h3] at hE
        rw [show (p.m == q.m) = true by simpa using h3]
        exact exT_ok oksg Try.func33 (by kernel_rfl) hE
      · rw [show (p.m != q.m) = true by simpa using h3] at hE
        rw [show (p.m == q.m) = false by simpa using h3]
        exact exT_ok oksg Try.func33 (by kernel_rfl) hE
    · rw [show (leastN 0 q.ckP != 0) = true by simpa using h2] at hE
      rw [show (leastN 0 q.ckP == 0) = false by simpa using h2]
      exact exT_ok oksg Try.func33 (by kernel_rfl) hE
  · have hE := smE2 own X.length X p q
    have h2 : leastN (leastN (chkI X) p.ckP) q.ckP ≠ 0 := fun h => h1 (leastN_zero.1 h).1
    rw [lk_true, to, opsOf_row rfl, show (leastN (chkI X) p.ckP != 0) = true by simpa using h1, show (leastN (leastN (chkI X) p.ckP) q.ckP != 0) = true by simpa using h2] at hE
    rw [show (leastN (leastN (chkI X) p.ckP) q.ckP == 0) = false by simpa using h2]
    exact exT_ok okse Try.func33 (by kernel_rfl) hE
end Go.Proofs.Ytggdbakgiknogaa


namespace Go.Proofs.Ytggdbakgiknogaa
open Go Vx
theorem mem_cpF : ∀ (l : List P3) (p q : P3), (q = p ∨ q ∈ cpF p l) ↔ (q = p ∨ q ∈ l)
  | [], _, _ => Iff.rfl
  | x :: l, p, q => by
    simp only [cpF]
    cases hx : x.eqB p with
    | true =>
      have := P3.eqB_iff'.1 hx
      subst this
      simp only [List.mem_cons]
      rw [mem_cpF l x q]
      constructor
      · rintro (h | h)
        · exact Or.inl h
        · exact Or.inr (Or.inr h)
      · rintro (h | h | h)
        · exact Or.inl h
        · exact Or.inl h
        · exact Or.inr h
    | false =>
      simp only [List.mem_cons]
      rw [mem_cpF l x q]
theorem mem_cpct {l : List P3} {q : P3} : q ∈ cpct l ↔ q ∈ l := by
  cases l with
  | nil => rfl
  | cons x l => simp only [cpct, List.mem_cons]; exact mem_cpF l x q
theorem lexI_lt_le {a b c : List Int} (h1 : a.length = b.length) (h2 : b.length = c.length) (h3 : lexI a b < 0) (h4 : lexI b c ≤ 0) : lexI a c < 0 := by
  have h5 := lexI_trans h1 h2 (by omega) h4
  by_cases h0 : lexI a c = 0
  · have e := (lexI_zero (h1.trans h2)).1 h0
    subst e
    have := lexI_neg a b
    omega
  · omega
def StrictP (l : List P3) : Prop := l.Pairwise fun a b => lexI (pkey a) (pkey b) < 0
theorem pkey_len (a b : P3) : (pkey a).length = (pkey b).length := rfl
theorem pkey_inj {a b : P3} (hm : a.m = b.m) (h : pkey a = pkey b) : a = b := by
  obtain ⟨m, x, y, z⟩ := a
  obtain ⟨m2, x2, y2, z2⟩ := b
  simp only [pkey, V3.l, List.cons.injEq, and_true] at h
  simp only at hm
  obtain ⟨rfl, rfl, rfl⟩ := h
  subst hm
  rfl
theorem plt_irrefl (a : P3) : ¬ lexI (pkey a) (pkey a) < 0 := by
  have := (lexI_zero (l := pkey a) (m := pkey a) rfl).2 rfl
  omega
theorem cpF_strict {M : Int} : ∀ (l : List P3) (p : P3), SortedK pkey (p :: l) → (∀ x ∈ p :: l, x.m = M) → StrictP (p :: cpF p l)
  | [], p, _, _ => by simp [cpF, StrictP]
  | x :: l, p, h, hm => by
    unfold SortedK at h
    rw [List.pairwise_cons] at h
    obtain ⟨h1, h2⟩ := h
    simp only [cpF]
    cases hx : x.eqB p with
    | true =>
      have := P3.eqB_iff'.1 hx
      subst this
      exact cpF_strict l x h2 fun y hy => hm y (by simp only [List.mem_cons] at hy ⊢; rcases hy with h | h <;> simp [h])
    | false =>
      have ih := cpF_strict l x h2 fun y hy => hm y (List.mem_cons_of_mem _ hy)
      unfold StrictP
      rw [List.pairwise_cons]
      refine ⟨fun y hy => ?_, ih⟩
      have hpx : lexI (pkey p) (pkey x) < 0 := by
        have hle := h1 x (by simp)
        by_cases h0 : lexI (pkey p) (pkey x) = 0
        · have e := pkey_inj ((hm p (by simp)).trans (hm x (by simp)).symm) ((lexI_zero (pkey_len p x)).1 h0)
          rw [e, P3.eqB_iff'.2 rfl] at hx
          cases hx
        · omega
      rcases List.mem_cons.1 hy with rfl | hy
      · exact hpx
      · have hxy := (List.pairwise_cons.1 ih).1 y hy
        exact lexI_lt_le (pkey_len p x) (pkey_len x y) hpx (by omega)
theorem cpct_strict {M : Int} {l : List P3} (h : SortedK pkey l) (hm : ∀ x ∈ l, x.m = M) : StrictP (cpct l) := by
  cases l with
  | nil => exact List.Pairwise.nil
  | cons x l => exact cpF_strict l x h hm
theorem strictP_nodup {l : List P3} (h : StrictP l) : l.Nodup := h.imp fun {a b} hab e => by subst e; exact plt_irrefl a hab
theorem strict_ext : ∀ {l m : List P3}, StrictP l → StrictP m → (∀ q, q ∈ l ↔ q ∈ m) → l = m
  | [], [], _, _, _ => rfl
  | [], y :: m, _, _, h => by have := (h y).2 (by simp); cases this
  | x :: l, [], _, _, h => by have := (h x).1 (by simp); cases this
  | x :: l, y :: m, hl, hm, h => by
    unfold StrictP at hl hm
    rw [List.pairwise_cons] at hl hm
    have hxy : x = y := by
      rcases List.mem_cons.1 ((h x).1 (by simp)) with e | hx
      · exact e
      · rcases List.mem_cons.1 ((h y).2 (by simp)) with e | hy
        · exact e.symm
        · have h1 := hm.1 x hx
          have h2 := hl.1 y hy
          have h3 := lexI_neg (pkey x) (pkey y)
          omega
    subst hxy
    have := strict_ext (l := l) (m := m) hl.2 hm.2 fun q => by
      constructor
      · intro hq
        rcases List.mem_cons.1 ((h q).1 (List.mem_cons_of_mem _ hq)) with e | hq2
        · subst e; exact absurd (hl.1 q hq) (plt_irrefl q)
        · exact hq2
      · intro hq
        rcases List.mem_cons.1 ((h q).2 (List.mem_cons_of_mem _ hq)) with e | hq2
        · subst e; exact absurd (hm.1 q hq) (plt_irrefl q)
        · exact hq2
    rw [this]
/-! Orbits -/
theorem Vx.P3.form_md {p : P3} (h : p.form = true) : p.x.md p.m = p.x := by
  unfold P3.form at h
  rw [Bool.and_eq_true] at h
  exact (V3.eqB_iff.1 h.2).symm
theorem Vx.O3.one_app {p : P3} (h : p.form = true) : O3.one.app p = p := by
  have e : O3.one.app p = ⟨p.m, p.x.md p.m⟩ := by
    unfold O3.app O3.one
    simp only [M3.app_one]
    congr 2
    unfold V3.smul V3.zero V3.add
    simp
  rw [e, P3.form_md h]
/-- Where a group sends a place: unlike places, in order. -/
def orbL (X : List O3) (p : P3) : List P3 := cpct (sortPt' (imgs X p))
theorem mem_imgs {X : List O3} {p q : P3} : q ∈ imgs X p ↔ ∃ o ∈ X, o.app p = q := by unfold imgs; rw [List.mem_map]
theorem mem_orbL {X : List O3} {p q : P3} : q ∈ orbL X p ↔ ∃ o ∈ X, o.app p = q := by
  unfold orbL sortPt'
  rw [mem_cpct, (sortK_perm pkey _).mem_iff, mem_imgs]
theorem app_m (o : O3) (p : P3) : (o.app p).m = p.m := rfl
theorem imgs_m {X : List O3} {p q : P3} (h : q ∈ imgs X p) : q.m = p.m := by
  obtain ⟨o, _, rfl⟩ := mem_imgs.1 h
  rfl
theorem imgs_form {X : List O3} {p q : P3} (hp : p.form = true) (h : q ∈ imgs X p) : q.form = true := by
  obtain ⟨o, _, rfl⟩ := mem_imgs.1 h
  exact O3.app_form hp
theorem orbL_strict (X : List O3) (p : P3) : StrictP (orbL X p) := cpct_strict (M := p.m) (sortK_sorted pkey (c := 3) (fun _ => rfl) _) fun _ hx => imgs_m ((sortK_perm pkey _).mem_iff.1 hx)
theorem cpF_le : ∀ (l : List P3) (p : P3), (cpF p l).length ≤ l.length
  | [], _ => Nat.le_refl _
  | x :: l, p => by
    simp only [cpF]
    cases x.eqB p with
    | true => have := cpF_le l p; simp only [List.length_cons]; omega
    | false => have := cpF_le l x; simp only [List.length_cons]; omega
theorem cpct_le (l : List P3) : (cpct l).length ≤ l.length := by
  cases l with
  | nil => exact Nat.le_refl _
  | cons x l => have := cpF_le l x; simp only [cpct, List.length_cons]; omega
theorem orbL_len (X : List O3) (p : P3) : (orbL X p).length ≤ X.length := by
  have h := cpct_le (sortPt' (imgs X p))
  unfold orbL
  rw [show (sortPt' (imgs X p)).length = X.length by unfold sortPt'; rw [sortK_len]; simp [imgs]] at h
  exact h
theorem act_back {X : List O3} (hX : Grp X) {o : O3} (ho : o ∈ X) : ∃ b ∈ X, ∀ p : P3, p.form = true → b.app (o.app p) = p := by
  have hi : ∀ h ∈ X, h.Inv := fun h hh => O3.inv_ck (hX.ck h hh)
  obtain ⟨b, hb, e1⟩ := grp_undo hX.nd hi hX.one hX.mul ho
  obtain ⟨c, _, e2⟩ := grp_undo hX.nd hi hX.one hX.mul hb
  have f1 : ∀ p : P3, p.form = true → o.app (b.app p) = p := fun p hp => by rw [← O3.app_mul o b hp, e1, O3.one_app hp]
  have f2 : ∀ p : P3, p.form = true → b.app (c.app p) = p := fun p hp => by rw [← O3.app_mul b c hp, e2, O3.one_app hp]
  refine ⟨b, hb, fun p hp => ?_⟩
  have h3 : o.app p = c.app p := by
    have := f1 (c.app p) (O3.app_form hp)
    rw [f2 p hp] at this
    exact this
  rw [h3, f2 p hp]
theorem orb_self {X : List O3} (hX : Grp X) {p : P3} (hp : p.form = true) : p ∈ imgs X p := mem_imgs.2 ⟨O3.one, hX.one, O3.one_app hp⟩
theorem orb_trans {X : List O3} (hX : Grp X) {p q : P3} (hp : p.form = true) (h : q ∈ imgs X p) (r : P3) : r ∈ imgs X q ↔ r ∈ imgs X p := by
  obtain ⟨o, ho, rfl⟩ := mem_imgs.1 h
  rw [mem_imgs, mem_imgs]
  constructor
  · rintro ⟨a, ha, rfl⟩
    exact ⟨a.mul o, hX.mul a ha o ho, O3.app_mul a o hp⟩
  · rintro ⟨a, ha, rfl⟩
    obtain ⟨b, hb, hbk⟩ := act_back hX ho
    refine ⟨a.mul b, hX.mul a ha b hb, ?_⟩
    rw [O3.app_mul a b (O3.app_form hp), hbk p hp]
theorem orb_sym {X : List O3} (hX : Grp X) {p q : P3} (hp : p.form = true) (h : q ∈ imgs X p) : p ∈ imgs X q := (orb_trans hX hp h p).2 (orb_self hX hp)
theorem orb_one {X : List O3} (hX : Grp X) {p q : P3} (hp : p.form = true) (h : q ∈ imgs X p) : orbL X q = orbL X p :=
  strict_ext (orbL_strict X q) (orbL_strict X p) fun r => by
    rw [mem_orbL, mem_orbL, ← mem_imgs, ← mem_imgs]
    exact orb_trans hX hp h r
theorem orb_apart {X : List O3} (hX : Grp X) {p q : P3} (hp : p.form = true) (hq : q.form = true) (h : q ∉ imgs X p) : ∀ x ∈ orbL X p, x ∉ orbL X q := fun x hx hx2 => by
  rw [mem_orbL, ← mem_imgs] at hx hx2
  exact h ((orb_trans hX hp hx q).1 (orb_sym hX hq hx2))
/-! Places in common -/
def cmI (x : P3) : List P3 → Nat → Nat
  | [], c => c
  | y :: m, c => cmI x m (bif x.eqB y then c + 1 else c)
def cmO (m : List P3) : List P3 → Nat → Nat
  | [], c => c
  | x :: l, c => cmO m l (cmI x m c)
theorem cmI_out (x : P3) : ∀ (m : List P3) (c : Nat), x ∉ m → cmI x m c = c
  | [], _, _ => rfl
  | y :: m, c, h => by
    have hy : x.eqB y = false := by
      cases hb : x.eqB y with
      | false => rfl
      | true => exact absurd (P3.eqB_iff'.1 hb) fun e => h (by simp [e])
    simp only [cmI, hy, cond_false]
    exact cmI_out x m c fun hm => h (by simp [hm])
theorem cmI_in (x : P3) : ∀ (m : List P3) (c : Nat), m.Nodup → x ∈ m → cmI x m c = c + 1
  | [], _, _, h => by cases h
  | y :: m, c, hn, h => by
    rw [List.nodup_cons] at hn
    simp only [cmI]
    cases hb : x.eqB y with
    | true =>
      have := P3.eqB_iff'.1 hb
      subst this
      exact cmI_out x m _ hn.1
    | false =>
      have hne : x ≠ y := fun e => by rw [e, P3.eqB_iff'.2 rfl] at hb; cases hb
      exact cmI_in x m c hn.2 ((List.mem_cons.1 h).resolve_left hne)
theorem cmO_out (m : List P3) : ∀ (l : List P3) (c : Nat), (∀ x ∈ l, x ∉ m) → cmO m l c = c
  | [], _, _ => rfl
  | x :: l, c, h => by
    simp only [cmO]
    rw [cmI_out x m c (h x (by simp))]
    exact cmO_out m l c fun y hy => h y (by simp [hy])
theorem cmO_in (m : List P3) (hn : m.Nodup) : ∀ (l : List P3) (c : Nat), (∀ x ∈ l, x ∈ m) → cmO m l c = c + l.length
  | [], _, _ => rfl
  | x :: l, c, h => by
    simp only [cmO]
    rw [cmI_in x m c hn (h x (by simp)), cmO_in m hn l (c + 1) fun y hy => h y (by simp [hy])]
    simp only [List.length_cons]
    omega
theorem cmI_le (x : P3) : ∀ (m : List P3) (c : Nat), cmI x m c ≤ c + m.length
  | [], _ => Nat.le_refl _
  | y :: m, c => by
    simp only [cmI, List.length_cons]
    have := cmI_le x m (bif x.eqB y then c + 1 else c)
    cases hb : x.eqB y <;> rw [hb] at this <;> simp only [cond_true, cond_false] at this ⊢ <;> omega
/-! Contains, Same -/
theorem ixL_spec (v : P3) : ∀ (l : List P3) (i : Int), 0 ≤ i → (0 ≤ ixL v l i ↔ v ∈ l)
  | [], i, _ => by simp [ixL]
  | x :: l, i, hi => by
    simp only [ixL]
    cases hb : v.eqB x with
    | true =>
      have := P3.eqB_iff'.1 hb
      subst this
      simp [hi]
    | false =>
      have hne : v ≠ x := fun e => by rw [e, P3.eqB_iff'.2 rfl] at hb; cases hb
      simp only
      rw [ixL_spec v l (i + 1) (by omega), List.mem_cons]
      simp [hne]
theorem cnB_iff {v : P3} {Y : List P3} : cnB v Y = true ↔ v ∈ Y := by
  unfold cnB
  rw [decide_eq_true_iff]
  exact ixL_spec v Y 0 (Int.le_refl _)
theorem ckP_cases (p : P3) : p.ckP = 0 ∨ p.ckP = 3 := by unfold P3.ckP; cases p.form <;> simp
theorem leastN_z (x : Int) : leastN x 0 = x := by
  unfold leastN
  cases h : x == 0 with
  | true => rw [beq_iff_eq] at h; subst h; rfl
  | false => rfl
theorem samE_sym (X : List O3) (p q : P3) : samE X p q = samE X q p := by
  have hc : (p.m == q.m) = (q.m == p.m) := by rw [Bool.eq_iff_iff]; simp only [beq_iff_eq]; exact ⟨Eq.symm, Eq.symm⟩
  have hl : leastN (leastN (chkI X) p.ckP) q.ckP = leastN (leastN (chkI X) q.ckP) p.ckP := by
    rcases ckP_cases p with h1 | h1 <;> rcases ckP_cases q with h2 | h2 <;> rw [h1, h2] <;> (try rfl)
    · rw [leastN_z, leastN_z]
    · rw [leastN_z, leastN_z]
  unfold samE
  rw [hl, hc]
theorem samV_sym (X : List O3) (p q : P3) : samV X p q = samV X q p := by
  have hl : leastN (leastN (chkI X) p.ckP) q.ckP = leastN (leastN (chkI X) q.ckP) p.ckP := by
    rcases ckP_cases p with h1 | h1 <;> rcases ckP_cases q with h2 | h2 <;> rw [h1, h2] <;> (try rfl)
    · rw [leastN_z, leastN_z]
    · rw [leastN_z, leastN_z]
  have hc : (p.m == q.m) = (q.m == p.m) := by rw [Bool.eq_iff_iff]; simp only [beq_iff_eq]; exact ⟨Eq.symm, Eq.symm⟩
  unfold samV
  rw [← hl, ← hc]
  cases hb : (leastN (leastN (chkI X) p.ckP) q.ckP == 0 && p.m == q.m) with
  | false => rfl
  | true =>
    rw [Bool.and_eq_true, beq_iff_eq, beq_iff_eq] at hb
    obtain ⟨h1, h2⟩ := leastN_zero.1 hb.1
    obtain ⟨h3, h4⟩ := leastN_zero.1 h1
    have hX := (chk_grp h3).2.1
    have hp := ckP_zero h4
    have hq := ckP_zero h2
    simp only [cond_true]
    rw [Bool.eq_iff_iff, cnB_iff, cnB_iff]
    exact ⟨orb_sym hX hp, orb_sym hX hq⟩
end Go.Proofs.Ytggdbakgiknogaa


namespace Go.Proofs.Ytggdbakgiknogaa
open Go Vx Go.RowKit
/-! No list -/
def imZ0 (p : P3) : St := stOf 40 [(0, .slice none 0 0), (3, .pointer (some ⟨0, 0, none⟩)), (4, .slice none 0 0), (5, vI 0)] [.cells true 0 p.cells]
theorem imZ1 (p : P3) : segR ((Cib Try.prog).into 56 0) 60 1 (imB Try.prog) [0, 3, 4, 5] [.slot 3] (enter Try.f56 [.slice none 0 0, p.v] []) = some (imZ0 p) := by kernel_rfl
theorem imZ2 (p : P3) : roundR ((Cib Try.prog).into 56 0) 60 (stmt 1 (imB Try.prog)) [4, 5] [4, 5] [] [] (imZ0 p) =
    (match leastN 5 p.ckP != 0 with
      | true => some (.ret, stOf 40 [(4, .slice none 0 0), (5, vI (leastN 5 p.ckP))] [])
      | false => some (.normal, stOf 40 [(4, .slice none 0 0), (5, vI 0)] [])) := by kernel_rfl
theorem imZr (e : Int) : (retA Try.prog Try.f56 (.ret, stOf 40 [(4, .slice none 0 0), (5, vI e)] [])).res = some (nilE e, []) := by kernel_rfl
theorem five_ne (p : P3) : leastN 5 p.ckP ≠ 0 := by rcases ckP_cases p with h | h <;> rw [h] <;> decide
theorem imZ (p : P3) : MemSem Try.prog 56 [.slice none 0 0, p.v] [] (nilE (leastN 5 p.ckP)) [] := by
  refine body_mem (f := 56) Try.func56 imB_eq (by kernel_rfl) ?_ (imZr (leastN 5 p.ckP))
  have h1 := imZ2 p
  rw [show (leastN 5 p.ckP != 0) = true by simpa using five_ne p] at h1
  exact seg_rule (C := Cib Try.prog) okib (f := 56) (B := 0) (Or.inl ⟨Try.f56, imB Try.prog, Try.func56, imB_eq, fun _ hx => hx⟩) (imZ1 p) (stmt_out imHas1 (end_rule (C := Cib Try.prog) okib (f := 56) (B := 0) (stmt_in Try.func56 imB_eq) h1) (by simp))
def izF : List Value → Mem → Option (Ans (Value × Mem))
  | [.slice none 0 0, .agg co], [] => match ptCells co.toList with
    | some p => some (.out (nilE (leastN 5 p.ckP), []))
    | none => none
  | _, _ => none
theorem izF_ok {args : List Value} {m : Mem} {ans : Ans (Value × Mem)} {v : Value} {m' : Mem} (h : izF args m = some ans) (hr : ans.res = some (v, m')) : MemSem Try.prog 56 args m v m' := by
  unfold izF at h
  split at h
  rotate_left
  · cases h
  rename_i co
  split at h
  rotate_left
  · cases h
  rename_i p hp
  simp only [Option.some.injEq] at h
  subst h
  simp only [Ans.res, Option.some.injEq, Prod.mk.injEq] at hr
  obtain ⟨rfl, rfl⟩ := hr
  have e1 : co = p.cells.toArray := by rw [← ptCells_spec hp]
  subst e1
  exact imZ p
def Ciz (P : Program) : Cx := (CCw P).addF 56 izF
theorem okiz : CxOk (Ciz Try.prog) := Cx.addF_ok okCw fun _ _ _ _ _ h hr => izF_ok h hr
theorem ofZ (p : P3) : exT ((Ciz Try.prog).at 27) 60 Try.f27 [.slice none 0 0, p.v] [] [] = (match leastN 5 p.ckP != 0 with
    | true => some (nilE (leastN 5 p.ckP), [])
    | false => none) := by kernel_rfl
theorem saZ (p q : P3) : exT ((Ciz Try.prog).at 33) 60 Try.f33 [.slice none 0 0, p.v, q.v] [] [] = (match leastN (leastN 5 p.ckP) q.ckP != 0 with
    | true => some (bE false (leastN (leastN 5 p.ckP) q.ckP), [])
    | false => match p.m != q.m with
      | true => some (bE false 6, [])
      | false => none) := by kernel_rfl
/-- What lies in the block of what Of answers. -/
def orbA (X : List O3) (p : P3) : List P3 := cpAll (sortPt' (imgs X p))
theorem imgs_len (X : List O3) (p : P3) : (imgs X p).length = X.length := by simp [imgs]
theorem sort_len (X : List O3) (p : P3) : (sortPt' (imgs X p)).length = X.length := by unfold sortPt'; rw [sortK_len, imgs_len]
theorem orbA_take (X : List O3) (p : P3) : (orbA X p).take (orbL X p).length = orbL X p := by
  unfold orbA cpAll orbL
  rw [List.take_append_of_le_length (Nat.le_refl _), List.take_length]
theorem orbA_len (X : List O3) (p : P3) : (orbA X p).length = X.length := by
  have h := cpct_le (sortPt' (imgs X p))
  have := sort_len X p
  unfold orbA cpAll
  rw [List.length_append, List.length_replicate]
  omega
theorem oneM_imgs {X : List O3} {p : P3} (h0 : X ≠ []) (hp : p.form = true) : oneM (imgs X p) = true := by
  unfold oneM
  rw [List.all_eq_true]
  intro q hq
  have hz : (atP (imgs X p) 0).m = p.m := by
    cases X with
    | nil => exact absurd rfl h0
    | cons o X => rfl
  rw [Bool.and_eq_true, hz, imgs_form hp hq, imgs_m hq]
  simp
theorem ofS (own : Bool) (X : List O3) (p : P3) (h : leastN (chkI X) p.ckP = 0) : MemSem Try.prog 27 [.slice (some ⟨0, 0, some 0⟩) X.length 12, p.v] [.rows own true 12 X.length (opRow X)] (.tuple #[.slice (some ⟨1, 0, some 0⟩) (orbL X p).length 4, vI 0]) [.rows own true 12 X.length (opRow X), .rows true true 4 X.length (ptRow (orbA X p))] := by
  have hE := ofE1 own X.length X p
  obtain ⟨h1, h2⟩ := leastN_zero.1 h
  have hl := chk_len h1
  have h0 : X ≠ [] := fun e => by rw [e] at hl; cases hl.2
  have hpos : 0 < X.length := List.length_pos_iff.2 h0
  have to : oT X.length (opRow X) = true := by unfold oT; rw [Nat.beq_refl, okOps_opRow]; rfl
  have ts : srT X.length (imgs X p) = true := by
    unfold srT
    rw [Nat.beq_refl, okPts_ptRow, ptsOf_row (imgs_len X p), oneM_imgs h0 (ckP_zero h2), Nat.blt_eq.mpr hpos, Nat.ble_eq_true_of_le (by omega)]
    rfl
  have tc : cmT X.length (sortPt' (imgs X p)) = true := by
    unfold cmT
    rw [Nat.beq_refl, okPts_ptRow, Nat.ble_eq_true_of_le (by omega)]
    rfl
  rw [lk_true, to, opsOf_row rfl, show (leastN (chkI X) p.ckP != 0) = false by simpa using h, ts, ptsOf_row (imgs_len X p), tc, ptsOf_row (sort_len X p)] at hE
  exact exT_ok okof Try.func27 (by kernel_rfl) hE
theorem ofSe (own : Bool) (X : List O3) (p : P3) (h : leastN (chkI X) p.ckP ≠ 0) : MemSem Try.prog 27 [.slice (some ⟨0, 0, some 0⟩) X.length 12, p.v] [.rows own true 12 X.length (opRow X)] (nilE (leastN (chkI X) p.ckP)) [.rows own true 12 X.length (opRow X)] := by
  have hE := ofE2 own X.length X p
  have to : oT X.length (opRow X) = true := by unfold oT; rw [Nat.beq_refl, okOps_opRow]; rfl
  rw [lk_true, to, opsOf_row rfl, show (leastN (chkI X) p.ckP != 0) = true by simpa using h] at hE
  exact exT_ok okoe Try.func27 (by kernel_rfl) hE
def ofF : List Value → Mem → Option (Ans (Value × Mem))
  | [.slice none 0 0, .agg co], [] => match ptCells co.toList with
    | some p => some (.out (nilE (leastN 5 p.ckP), []))
    | none => none
  | [.slice (some ⟨0, 0, some 0⟩) N 12, .agg co], [.rows own true 12 N2 row] => match ptCells co.toList with
    | some p => some (.br (Nat.beq N N2 && okOps N row) (.br (leastN (chkI (opsOf N row)) p.ckP != 0) (.out (nilE (leastN (chkI (opsOf N row)) p.ckP), [.rows own true 12 N (opRow (opsOf N row))])) (.out (.tuple #[.slice (some ⟨1, 0, some 0⟩) (orbL (opsOf N row) p).length 4, vI 0], [.rows own true 12 N (opRow (opsOf N row)), .rows true true 4 N (ptRow (orbA (opsOf N row) p))]))) .fail)
    | none => none
  | _, _ => none
theorem ofF_ok {args : List Value} {m : Mem} {ans : Ans (Value × Mem)} {v : Value} {m' : Mem} (h : ofF args m = some ans) (hr : ans.res = some (v, m')) : MemSem Try.prog 27 args m v m' := by
  unfold ofF at h
  split at h
  · rename_i co
    split at h
    rotate_left
    · cases h
    rename_i p hp
    simp only [Option.some.injEq] at h
    subst h
    simp only [Ans.res, Option.some.injEq, Prod.mk.injEq] at hr
    obtain ⟨rfl, rfl⟩ := hr
    have e1 : co = p.cells.toArray := by rw [← ptCells_spec hp]
    subst e1
    have hE := ofZ p
    rw [show (leastN 5 p.ckP != 0) = true by simpa using five_ne p] at hE
    exact exT_ok okiz Try.func27 (by kernel_rfl) hE
  rotate_left
  · cases h
  rename_i N co own N2 row
  split at h
  rotate_left
  · cases h
  rename_i p hp
  simp only [Option.some.injEq] at h
  subst h
  rcases Ans.br_some hr with ⟨hc, hr1⟩ | ⟨_, hr1⟩
  rotate_left
  · simp [Ans.res] at hr1
  rw [Bool.and_eq_true] at hc
  obtain ⟨c1, c2⟩ := hc
  have c1 := beq_len c1
  subst c1
  have e1 : co = p.cells.toArray := by rw [← ptCells_spec hp]
  subst e1
  have hl := opsOf_length N row
  rcases Ans.br_some hr1 with ⟨hq, hr2⟩ | ⟨hq, hr2⟩
  · simp only [Ans.res, Option.some.injEq, Prod.mk.injEq] at hr2
    obtain ⟨rfl, rfl⟩ := hr2
    have := ofSe own (opsOf N row) p (by simpa using hq)
    rw [hl] at this
    exact this.like ⟨.rows (ops_like c2), trivial⟩
  · simp only [Ans.res, Option.some.injEq, Prod.mk.injEq] at hr2
    obtain ⟨rfl, rfl⟩ := hr2
    have := ofS own (opsOf N row) p (by simpa using hq)
    rw [hl] at this
    exact this.like ⟨.rows (ops_like c2), trivial⟩
def saF : List Value → Mem → Option (Ans (Value × Mem))
  | [.slice none 0 0, .agg co, .agg cq], [] => match ptCells co.toList, ptCells cq.toList with
    | some p, some q => some (.out (bE false (leastN (leastN 5 p.ckP) q.ckP), []))
    | _, _ => none
  | [.slice (some ⟨0, 0, some 0⟩) N 12, .agg co, .agg cq], [.rows own true 12 N2 row] => match ptCells co.toList, ptCells cq.toList with
    | some p, some q => some (.br (Nat.beq N N2 && okOps N row) (.out (bE (samV (opsOf N row) p q) (samE (opsOf N row) p q), [.rows own true 12 N (opRow (opsOf N row))])) .fail)
    | _, _ => none
  | _, _ => none
theorem saF_ok {args : List Value} {m : Mem} {ans : Ans (Value × Mem)} {v : Value} {m' : Mem} (h : saF args m = some ans) (hr : ans.res = some (v, m')) : MemSem Try.prog 33 args m v m' := by
  unfold saF at h
  split at h
  · rename_i co cq
    split at h
    rotate_left
    · cases h
    rename_i p q hp hq
    simp only [Option.some.injEq] at h
    subst h
    simp only [Ans.res, Option.some.injEq, Prod.mk.injEq] at hr
    obtain ⟨rfl, rfl⟩ := hr
    have e1 : co = p.cells.toArray := by rw [← ptCells_spec hp]
    have e2 : cq = q.cells.toArray := by rw [← ptCells_spec hq]
    subst e1 e2
    have hE := saZ p q
    rw [show (leastN (leastN 5 p.ckP) q.ckP != 0) = true by simpa using fun h => five_ne p (leastN_zero.1 h).1] at hE
    exact exT_ok okiz Try.func33 (by kernel_rfl) hE
  rotate_left
  · cases h
  rename_i N co cq own N2 row
  split at h
  rotate_left
  · cases h
  rename_i p q hp hq
  simp only [Option.some.injEq] at h
  subst h
  rcases Ans.br_some hr with ⟨hc, hr1⟩ | ⟨_, hr1⟩
  rotate_left
  · simp [Ans.res] at hr1
  rw [Bool.and_eq_true] at hc
  obtain ⟨c1, c2⟩ := hc
  have c1 := beq_len c1
  subst c1
  have e1 : co = p.cells.toArray := by rw [← ptCells_spec hp]
  have e2 : cq = q.cells.toArray := by rw [← ptCells_spec hq]
  subst e1 e2
  have hl := opsOf_length N row
  simp only [Ans.res, Option.some.injEq, Prod.mk.injEq] at hr1
  obtain ⟨rfl, rfl⟩ := hr1
  have := samS own (opsOf N row) p q
  rw [hl] at this
  exact this.like ⟨.rows (ops_like c2), trivial⟩
end Go.Proofs.Ytggdbakgiknogaa


namespace Go.Proofs.Ytggdbakgiknogaa
open Go Vx
/-- Does it leave the place? -/
def fixB (p : P3) (o : O3) : Bool := (o.app p).eqB p
theorem orb_fib {H : List O3} (h : Grp H) {p : P3} (hp : p.form = true) {o : O3} (ho : o ∈ H) : (H.filter fun x => (x.app p).eqB (o.app p)).length = (H.filter fun x => fixB p x).length := by
  have hi : ∀ x ∈ H, x.Inv := fun x hx => O3.inv_ck (h.ck x hx)
  obtain ⟨b, hb, hbk⟩ := act_back h ho
  have canc : ∀ u ∈ H, ∀ x ∈ H, ∀ y ∈ H, u.mul x = u.mul y → x = y := fun u hu x hx y hy e => O3.cancel_l (hi u hu) (hi x hx) (hi y hy) e
  apply Nat.le_antisymm
  · have hn : ((H.filter fun x => (x.app p).eqB (o.app p)).map fun x => b.mul x).Nodup := nodup_map (h.nd.filter _) fun x hx y hy => canc b hb x (List.mem_filter.1 hx).1 y (List.mem_filter.1 hy).1
    have := nodup_sub hn (m := H.filter fun x => fixB p x) fun y hy => by
      obtain ⟨x, hx, rfl⟩ := List.mem_map.1 hy
      obtain ⟨hx1, hx2⟩ := List.mem_filter.1 hx
      refine List.mem_filter.2 ⟨h.mul b hb x hx1, P3.eqB_iff'.2 ?_⟩
      rw [O3.app_mul b x hp, P3.eqB_iff'.1 hx2, hbk p hp]
    rwa [List.length_map] at this
  · have hn : ((H.filter fun x => fixB p x).map fun x => o.mul x).Nodup := nodup_map (h.nd.filter _) fun x hx y hy => canc o ho x (List.mem_filter.1 hx).1 y (List.mem_filter.1 hy).1
    have := nodup_sub hn (m := H.filter fun x => (x.app p).eqB (o.app p)) fun y hy => by
      obtain ⟨x, hx, rfl⟩ := List.mem_map.1 hy
      obtain ⟨hx1, hx2⟩ := List.mem_filter.1 hx
      refine List.mem_filter.2 ⟨h.mul o ho x hx1, P3.eqB_iff'.2 ?_⟩
      rw [O3.app_mul o x hp, P3.eqB_iff'.1 hx2]
    rwa [List.length_map] at this
/-- Places times maps that stay are the group. -/
theorem orb_count {H : List O3} (h : Grp H) {p : P3} (hp : p.form = true) : (orbL H p).length * (H.filter fun x => fixB p x).length = H.length := by
  have e := count_sum (fun o : O3 => o.app p) P3.eqB (fun _ _ => P3.eqB_iff') (orbL H p) (strictP_nodup (orbL_strict H p)) H fun x hx => mem_orbL.2 ⟨x, hx, rfl⟩
  rw [← e, ← sum_same]
  congr 1
  refine List.map_congr_left fun d hd' => ?_
  obtain ⟨o, ho, rfl⟩ := mem_orbL.1 hd'
  exact (orb_fib h hp ho).symm
/-- The maps that leave a place are a group, in order. -/
theorem stay_chk {H : List O3} (h : chkI H = 0) {p : P3} (hp : p.form = true) : chkI (H.filter fun x => fixB p x) = 0 := by
  obtain ⟨hs, hg, hl⟩ := chk_grp h
  refine chk_of (hs.sublist List.filter_sublist) ⟨hg.nd.filter _, fun x hx => hg.ck x (List.mem_filter.1 hx).1, List.mem_filter.2 ⟨hg.one, P3.eqB_iff'.2 (O3.one_app hp)⟩, fun a ha b hb => ?_⟩ (Nat.le_trans (List.length_filter_le _ _) hl)
  obtain ⟨a1, a2⟩ := List.mem_filter.1 ha
  obtain ⟨b1, b2⟩ := List.mem_filter.1 hb
  refine List.mem_filter.2 ⟨hg.mul a a1 b b1, P3.eqB_iff'.2 ?_⟩
  rw [O3.app_mul a b hp, P3.eqB_iff'.1 b2, P3.eqB_iff'.1 a2]
/-! The first place -/
def minF (m : P3) : List P3 → P3
  | [] => m
  | x :: l => minF (bif decide (x.ordV m < 0) then x else m) l
def minL : List P3 → P3
  | [] => P3.zero
  | x :: l => minF x l
theorem ordV_key {a b : P3} (ha : a.form = true) (hb : b.form = true) (hm : a.m = b.m) : a.ordV b = lexI (pkey a) (pkey b) := by
  obtain ⟨m, x⟩ := a
  obtain ⟨m2, x2⟩ := b
  simp only at hm
  subst hm
  exact PM.ord (M := m) ⟨x, ha⟩ ⟨x2, hb⟩
theorem minF_spec {M : Int} : ∀ (l : List P3) (m : P3), (∀ x ∈ m :: l, x.form = true ∧ x.m = M) → minF m l ∈ m :: l ∧ ∀ y ∈ m :: l, lexI (pkey (minF m l)) (pkey y) ≤ 0
  | [], m, _ => ⟨by simp [minF], fun y hy => by
      simp only [List.mem_cons, List.not_mem_nil, or_false] at hy
      subst hy
      have := (lexI_zero (l := pkey y) (m := pkey y) rfl).2 rfl
      simp only [minF]
      omega⟩
  | x :: l, m, h => by
    have hx := h x (by simp)
    have hm := h m (by simp)
    have ho := ordV_key hx.1 hm.1 (hx.2.trans hm.2.symm)
    simp only [minF]
    by_cases hlt : x.ordV m < 0
    · rw [decide_eq_true hlt]
      simp only [cond_true]
      obtain ⟨i1, i2⟩ := minF_spec l x fun y hy => h y (by simp only [List.mem_cons] at hy ⊢; rcases hy with k | k <;> simp [k])
      refine ⟨List.mem_cons_of_mem _ i1, fun y hy => ?_⟩
      rcases List.mem_cons.1 hy with rfl | hy
      · have := i2 x (by simp)
        exact lexI_trans (pkey_len _ x) (pkey_len x y) this (by omega)
      · exact i2 y hy
    · rw [decide_eq_false hlt]
      simp only [cond_false]
      obtain ⟨i1, i2⟩ := minF_spec l m fun y hy => h y (by simp only [List.mem_cons] at hy ⊢; rcases hy with k | k <;> simp [k])
      refine ⟨?_, fun y hy => ?_⟩
      · rcases List.mem_cons.1 i1 with k | k
        · rw [k]; simp
        · simp [k]
      · rcases List.mem_cons.1 hy with rfl | hy
        · exact i2 y (by simp)
        · rcases List.mem_cons.1 hy with rfl | hy
          · have k := i2 m (by simp)
            have := lexI_neg (pkey y) (pkey m)
            exact lexI_trans (pkey_len _ m) (pkey_len m y) k (by omega)
          · exact i2 y (by simp [hy])
theorem minL_spec {M : Int} {l : List P3} (h0 : l ≠ []) (h : ∀ x ∈ l, x.form = true ∧ x.m = M) : minL l ∈ l ∧ ∀ y ∈ l, lexI (pkey (minL l)) (pkey y) ≤ 0 := by
  cases l with
  | nil => exact absurd rfl h0
  | cons x l => exact minF_spec l x h
/-- The first place of an orbit is the first of the list. -/
theorem min_orb {X : List O3} (h0 : X ≠ []) {p : P3} (hp : p.form = true) : atP (orbL X p) 0 = minL (imgs X p) ∧ minL (imgs X p) ∈ imgs X p ∧ 0 < (orbL X p).length := by
  have hi : imgs X p ≠ [] := fun e => h0 (List.map_eq_nil_iff.1 e)
  obtain ⟨m1, m2⟩ := minL_spec (M := p.m) hi fun x hx => ⟨imgs_form hp hx, imgs_m hx⟩
  have hin : minL (imgs X p) ∈ orbL X p := by rw [mem_orbL, ← mem_imgs]; exact m1
  refine ⟨?_, m1, List.length_pos_of_mem hin⟩
  cases hl : orbL X p with
  | nil => rw [hl] at hin; cases hin
  | cons x l =>
    show x = _
    have hs := orbL_strict X p
    rw [hl] at hs hin
    unfold StrictP at hs
    rw [List.pairwise_cons] at hs
    have hx : x ∈ imgs X p := by
      have : x ∈ orbL X p := by rw [hl]; simp
      rw [mem_orbL, ← mem_imgs] at this
      exact this
    rcases List.mem_cons.1 hin with e | hm
    · exact e.symm
    · have h1 := hs.1 _ hm
      have h2 := m2 x hx
      have := lexI_neg (pkey x) (pkey (minL (imgs X p)))
      omega
/-- Where it lies first. -/
theorem ixL_at (v : P3) : ∀ (l : List P3) (i : Int), v ∈ l → ∃ k : Nat, ixL v l i = i + (k : Int) ∧ k < l.length ∧ (∀ j, j < k → atP l j ≠ v) ∧ atP l k = v
  | [], _, h => by cases h
  | x :: l, i, h => by
    simp only [ixL]
    cases hb : v.eqB x with
    | true =>
      have := P3.eqB_iff'.1 hb
      subst this
      exact ⟨0, by simp, by simp, fun j hj => by omega, rfl⟩
    | false =>
      have hne : v ≠ x := fun e => by rw [e, P3.eqB_iff'.2 rfl] at hb; cases hb
      obtain ⟨k, k1, k2, k3, k4⟩ := ixL_at v l (i + 1) ((List.mem_cons.1 h).resolve_left hne)
      refine ⟨k + 1, ?_, by simp; omega, fun j hj => ?_, ?_⟩
      · simp only [k1]; omega
      · cases j with
        | zero => exact fun e => hne e.symm
        | succ j => exact k3 j (by omega)
      · exact k4
end Go.Proofs.Ytggdbakgiknogaa


namespace Go.Proofs.Ytggdbakgiknogaa
open Go Vx Go.RowKit
def mnB (P : Program) : Code := bodyOf P 67
theorem mnB_eq : Try.f67.body = some (mnB Try.prog) := by kernel_rfl
def cmpV : Value := .func (.func 58) #[] #[]
def mn1 (own : Bool) (n : Nat) (Y : List P3) (m : P3) : St := stOf 33 [(0, .slice (some ⟨0, 0, some 0⟩) n 4), (1, cmpV), (4, .pointer (some ⟨1, 0, none⟩)), (5, .pointer (some ⟨2, 0, none⟩))] [.rows own true 4 n (ptRow Y), .cells true 0 P3.zero.cells, .cells true 0 m.cells]
def mnH (own : Bool) (n : Nat) (Y : List P3) (m : P3) (i : Int) : St := stOf 33 [(0, .slice (some ⟨0, 0, some 0⟩) n 4), (1, cmpV), (4, .pointer (some ⟨1, 0, none⟩)), (5, .pointer (some ⟨2, 0, none⟩)), (6, vI i)] [.rows own true 4 n (ptRow Y), .cells true 0 P3.zero.cells, .cells true 0 m.cells]
def mnX (own : Bool) (n : Nat) (Y : List P3) (m : P3) : St := stOf 33 [(4, .pointer (some ⟨1, 0, none⟩)), (5, .pointer (some ⟨2, 0, none⟩))] [.rows own true 4 n (ptRow Y), .cells true 0 P3.zero.cells, .cells true 0 m.cells]
theorem mnE1 (own : Bool) (n : Nat) (Y : List P3) : segR ((CCw Try.prog).into 67 1) 40 3 (mnB Try.prog) [0, 1, 4, 5] [.fix 0, .slot 4, .slot 5] (enter Try.f67 [.slice (some ⟨0, 0, some 0⟩) n 4, cmpV] [.rows own true 4 n (ptRow Y)]) = gn (decide ((n : Int) < 1)) (gd (boundsI 0 n) (some (mn1 own n Y (atP Y 0)))) := by kernel_rfl
theorem mnFor : isFor 0 (stmt 3 (mnB Try.prog)) = true := by kernel_rfl
theorem mnHas : hasStmt 3 (mnB Try.prog) = true := by kernel_rfl
theorem mnHead (own : Bool) (n : Nat) (Y : List P3) (m : P3) : roundR ((CCw Try.prog).into 67 1) 40 (forHead (stmt 3 (mnB Try.prog))) [0, 1, 4, 5, 6] [0, 1, 4, 5, 6] [.fix 0, .slot 4, .slot 5] [.fix 0, .slot 4, .slot 5] (mn1 own n Y m) = some (.normal, mnH own n Y m 1) := by kernel_rfl
theorem mnR (own : Bool) (n : Nat) (Y : List P3) (m : P3) (i : Nat) : roundR ((CCw Try.prog).into 67 1) 40 (forBody (stmt 3 (mnB Try.prog))) [0, 1, 4, 5, 6] [4, 5] [.fix 0, .slot 4, .slot 5] [.fix 0, .slot 4, .slot 5] (mnH own n Y m (i : Int)) =
    (match decide ((i : Int) < (n : Int)) with
    | true => gd (boundsI i n) (match decide ((atP Y i).ordV m < 0) with
      | true => gd (boundsI i n) (some (.normal, mnH own n Y (atP Y i) (W ((i : Int) + 1))))
      | false => some (.normal, mnH own n Y m (W ((i : Int) + 1))))
    | false => some (.exit 0, mnX own n Y m)) := by kernel_rfl
theorem mnEnd (own : Bool) (n : Nat) (Y : List P3) (m : P3) : roundR ((CCw Try.prog).into 67 1) 40 (seqDrop 4 (mnB Try.prog)) [4] [4] [.fix 0, .slot 4] [.fix 0, .slot 4] (mnX own n Y m) = some (.ret, stOf 33 [(4, .pointer (some ⟨1, 0, none⟩))] [.rows own true 4 n (ptRow Y), .cells true 0 m.cells]) := by kernel_rfl
theorem mnRet (own : Bool) (n : Nat) (Y : List P3) (m : P3) : (retA Try.prog Try.f67 (.ret, stOf 33 [(4, .pointer (some ⟨1, 0, none⟩))] [.rows own true 4 n (ptRow Y), .cells true 0 m.cells])).res = some (m.v, [.rows own true 4 n (ptRow Y), .cells true 0 m.cells]) := by kernel_rfl
theorem mnTidy (own : Bool) (n : Nat) (Y : List P3) (m : P3) : (tidyA 1 [.fix 0] (m.v, [.rows own true 4 n (ptRow Y), .cells true 0 m.cells])).res = some (m.v, [.rows own true 4 n (ptRow Y)]) := by kernel_rfl
set_option maxRecDepth 100000 in
theorem mnIn : InBody ((CCw Try.prog).into 67 1) (forHead (stmt 3 (mnB Try.prog))) ∧ InBody ((CCw Try.prog).into 67 1) (forBody (stmt 3 (mnB Try.prog))) := for_in (C := CCw Try.prog) (f := 67) (B := 1) (id := 0) (k := 3) (fn := Try.f67) (b := mnB Try.prog) Try.func67 mnB_eq mnFor
theorem mnLoop (own : Bool) (Y : List P3) (hn : Y.length ≤ 1000000) : ∀ (c i : Nat) (m : P3), Y.length - i ≤ c → i ≤ Y.length → LoopSem Try.prog 1 (forBody (stmt 3 (mnB Try.prog))) (mnH own Y.length Y m (i : Int)) (.exit 0) (mnX own Y.length Y (minF m (Y.drop i))) := by
  intro c
  have out : ∀ (i : Nat) (m : P3), i = Y.length → LoopSem Try.prog 1 (forBody (stmt 3 (mnB Try.prog))) (mnH own Y.length Y m (i : Int)) (.exit 0) (mnX own Y.length Y (minF m (Y.drop i))) := by
    intro i m hi
    have hr := mnR own Y.length Y m i
    rw [show decide ((i : Int) < (Y.length : Int)) = false by simp; omega] at hr
    rw [List.drop_eq_nil_of_le (by omega)]
    exact loop_leave (C := CCw Try.prog) okCw (f := 67) (B := 1) mnIn.2 hr (by simp)
  induction c with
  | zero => intro i m h1 h2; exact out i m (by omega)
  | succ c ih =>
    intro i m h1 h2
    by_cases hi : i < Y.length
    · have hr := mnR own Y.length Y m i
      rw [show decide ((i : Int) < (Y.length : Int)) = true by simpa using hi, bd_ok' hi, show W ((i : Int) + 1) = ((i + 1 : Nat) : Int) by rw [W_in (by omega)]; simp] at hr
      simp only [gd_true] at hr
      have hd : Y.drop i = atP Y i :: Y.drop (i + 1) := by rw [List.drop_eq_getElem_cons hi, atP_get hi]
      rw [hd]
      simp only [minF]
      cases hb : decide ((atP Y i).ordV m < 0) with
      | true =>
        rw [hb] at hr
        exact loop_next (C := CCw Try.prog) okCw (f := 67) (B := 1) mnIn.2 hr (StLike.refl _) (ih (i + 1) (atP Y i) (by omega) (by omega))
      | false =>
        rw [hb] at hr
        exact loop_next (C := CCw Try.prog) okCw (f := 67) (B := 1) mnIn.2 hr (StLike.refl _) (ih (i + 1) m (by omega) (by omega))
    · exact out i m (by omega)
/-- slices.MinFunc. -/
theorem mnS (own : Bool) (Y : List P3) (h0 : 0 < Y.length) (hn : Y.length ≤ 1000000) : MemSem Try.prog 67 [.slice (some ⟨0, 0, some 0⟩) Y.length 4, cmpV] [.rows own true 4 Y.length (ptRow Y)] (minL Y).v [.rows own true 4 Y.length (ptRow Y)] := by
  have body0 : InBody ((CCw Try.prog).into 67 1) (mnB Try.prog) := Or.inl ⟨Try.f67, mnB Try.prog, Try.func67, mnB_eq, fun _ hx => hx⟩
  have r1 := mnE1 own Y.length Y
  rw [show decide ((Y.length : Int) < 1) = false by simp; omega, show boundsI 0 Y.length = true by simp [boundsI]; omega] at r1
  have hl := mnLoop own Y hn Y.length 1 (atP Y 0) (by omega) (by omega)
  have hm : minF (atP Y 0) (Y.drop 1) = minL Y := by
    cases Y with
    | nil => simp at h0
    | cons x l => rfl
  rw [hm] at hl
  have hb : MemSem Try.prog 67 [.slice (some ⟨0, 0, some 0⟩) Y.length 4, cmpV] [.rows own true 4 Y.length (ptRow Y)] (minL Y).v [.rows own true 4 Y.length (ptRow Y), .cells true 0 (minL Y).cells] := body_mem (f := 67) Try.func67 mnB_eq (by kernel_rfl) (seg_rule (C := CCw Try.prog) okCw (f := 67) (B := 1) (k := 3) body0 r1 (stmt_rule mnHas (for_rule mnFor (end_rule (C := CCw Try.prog) okCw (f := 67) (B := 1) mnIn.1 (mnHead own Y.length Y (atP Y 0))) hl) (end_rule (C := CCw Try.prog) okCw (f := 67) (B := 1) (bodyOf_in Try.func67 mnB_eq) (mnEnd own Y.length Y (minL Y))))) (mnRet own Y.length Y (minL Y))
  exact hb.tidy (mnTidy own Y.length Y (minL Y))
def mnF : List Value → Mem → Option (Ans (Value × Mem))
  | [.slice (some ⟨0, 0, some 0⟩) N 4, .func (.func 58) f c], [.rows own true 4 N2 row] => match f.toList, c.toList with
    | [], [] => some (.br (Nat.beq N N2 && (okPts N row && (Nat.blt 0 N && Nat.ble N 1000000))) (.out ((minL (ptsOf N row)).v, [.rows own true 4 N (ptRow (ptsOf N row))])) .fail)
    | _, _ => none
  | _, _ => none
theorem mnF_ok {args : List Value} {m : Mem} {ans : Ans (Value × Mem)} {v : Value} {m' : Mem} (h : mnF args m = some ans) (hr : ans.res = some (v, m')) : MemSem Try.prog 67 args m v m' := by
  unfold mnF at h
  split at h
  rotate_left
  · cases h
  rename_i N f c own N2 row
  split at h
  rotate_left
  · cases h
  rename_i hf hcl
  simp only [Option.some.injEq] at h
  subst h
  rcases Ans.br_some hr with ⟨hc, hr1⟩ | ⟨_, hr1⟩
  rotate_left
  · simp [Ans.res] at hr1
  simp only [Bool.and_eq_true] at hc
  obtain ⟨c1, c2, c4, c5⟩ := hc
  have c1 := beq_len c1
  subst c1
  simp only [Ans.res, Option.some.injEq, Prod.mk.injEq] at hr1
  obtain ⟨rfl, rfl⟩ := hr1
  have hl := ptsOf_length N row
  have e1 : f = #[] := by apply Array.ext'; simpa using hf
  have e2 : c = #[] := by apply Array.ext'; simpa using hcl
  subst e1 e2
  have := mnS own (ptsOf N row) (by rw [hl]; exact Nat.blt_eq.mp c4) (by rw [hl]; exact Nat.le_of_ble_eq_true c5)
  rw [hl] at this
  exact this.like ⟨.rows (pts_like c2), trivial⟩
/-! orbit.Least -/
def Cmn (P : Program) : Cx := (Cix P).addF 67 mnF
theorem okmn : CxOk (Cmn Try.prog) := Cx.addF_ok okix fun _ _ _ _ _ h hr => mnF_ok h hr
def Cle (P : Program) : Cx := (((Cmn P).good 56 [true, false]).looks 67 [true]).looks 68 [true]
theorem okle : CxOk (Cle Try.prog) := Cx.looks_ok (Cx.looks_ok (Cx.good_ok okmn _ _) _ _) _ _
def Clf (P : Program) : Cx := (Cmn P).road 56 [true, true]
theorem oklf : CxOk (Clf Try.prog) := Cx.road_ok okmn _ _
def mnT (n : Nat) (Y : List P3) : Bool := Nat.beq n n && (okPts n (ptRow Y) && (Nat.blt 0 n && Nat.ble n 1000000))
def leV (p : P3) (i e : Int) : Value := .tuple #[p.v, vI i, vI e]
theorem leE1 (own : Bool) (n : Nat) (xs : List O3) (p : P3) : exT ((Cle Try.prog).at 32) 60 Try.f32 [.slice (some ⟨0, 0, some 0⟩) n 12, p.v] [.rows own true 12 n (opRow xs)] [.fix 0] =
    gd (lk n) (gd (oT n (opRow xs)) (gn (leastN (chkI (opsOf n (opRow xs))) p.ckP != 0) (gd (lk n) (gd (mnT n (imgs (opsOf n (opRow xs)) p)) (gd (lk n) (gd (ixT n (imgs (opsOf n (opRow xs)) p))
      (some (leV (minL (ptsOf n (ptRow (imgs (opsOf n (opRow xs)) p)))) (ixL (minL (ptsOf n (ptRow (imgs (opsOf n (opRow xs)) p)))) (ptsOf n (ptRow (imgs (opsOf n (opRow xs)) p))) 0) 0, [.rows own true 12 n (opRow xs)])))))))) := by kernel_rfl
theorem leE2 (own : Bool) (n : Nat) (xs : List O3) (p : P3) : exT ((Clf Try.prog).at 32) 60 Try.f32 [.slice (some ⟨0, 0, some 0⟩) n 12, p.v] [.rows own true 12 n (opRow xs)] [.fix 0] =
    gd (lk n) (gd (oT n (opRow xs)) (gd (leastN (chkI (opsOf n (opRow xs))) p.ckP != 0) (match leastN (chkI (opsOf n (opRow xs))) p.ckP != 0 with
      | true => some (leV P3.zero 0 (leastN (chkI (opsOf n (opRow xs))) p.ckP), [.rows own true 12 n (opRow xs)])
      | false => none))) := by kernel_rfl
/-- What Least answers: the place, the map's place, the error. -/
def leP (X : List O3) (p : P3) : P3 := bif leastN (chkI X) p.ckP == 0 then minL (imgs X p) else P3.zero
def leI' (X : List O3) (p : P3) : Int := bif leastN (chkI X) p.ckP == 0 then ixL (minL (imgs X p)) (imgs X p) 0 else 0
theorem leS (own : Bool) (X : List O3) (p : P3) : MemSem Try.prog 32 [.slice (some ⟨0, 0, some 0⟩) X.length 12, p.v] [.rows own true 12 X.length (opRow X)] (leV (leP X p) (leI' X p) (leastN (chkI X) p.ckP)) [.rows own true 12 X.length (opRow X)] := by
  have to : oT X.length (opRow X) = true := by unfold oT; rw [Nat.beq_refl, okOps_opRow]; rfl
  unfold leP leI'
  by_cases h : leastN (chkI X) p.ckP = 0
  · have hE := leE1 own X.length X p
    have hl := chk_len (leastN_zero.1 h).1
    have h0 : 0 < X.length := List.length_pos_of_mem hl.2
    have hi := imgs_len X p
    have tm : mnT X.length (imgs X p) = true := by
      unfold mnT
      rw [Nat.beq_refl, okPts_ptRow, Nat.blt_eq.mpr h0, Nat.ble_eq_true_of_le (by omega)]
      rfl
    have ti : ixT X.length (imgs X p) = true := by rw [← hi]; exact ixT_ok (by omega)
    rw [lk_true, to, opsOf_row rfl, tm, ti, ptsOf_row hi, show (leastN (chkI X) p.ckP != 0) = false by simpa using h] at hE
    rw [h]
    exact exT_ok okle Try.func32 (by kernel_rfl) hE
  · have hE := leE2 own X.length X p
    rw [lk_true, to, opsOf_row rfl, show (leastN (chkI X) p.ckP != 0) = true by simpa using h] at hE
    rw [show (leastN (chkI X) p.ckP == 0) = false by simpa using h]
    exact exT_ok oklf Try.func32 (by kernel_rfl) hE
def leF : List Value → Mem → Option (Ans (Value × Mem))
  | [.slice (some ⟨0, 0, some 0⟩) N 12, .agg co], [.rows own true 12 N2 row] => match ptCells co.toList with
    | some p => some (.br (Nat.beq N N2 && okOps N row) (.out (leV (leP (opsOf N row) p) (leI' (opsOf N row) p) (leastN (chkI (opsOf N row)) p.ckP), [.rows own true 12 N (opRow (opsOf N row))])) .fail)
    | none => none
  | _, _ => none
theorem leF_ok {args : List Value} {m : Mem} {ans : Ans (Value × Mem)} {v : Value} {m' : Mem} (h : leF args m = some ans) (hr : ans.res = some (v, m')) : MemSem Try.prog 32 args m v m' := by
  unfold leF at h
  split at h
  rotate_left
  · cases h
  rename_i N co own N2 row
  split at h
  rotate_left
  · cases h
  rename_i p hp
  simp only [Option.some.injEq] at h
  subst h
  rcases Ans.br_some hr with ⟨hc, hr1⟩ | ⟨_, hr1⟩
  rotate_left
  · simp [Ans.res] at hr1
  rw [Bool.and_eq_true] at hc
  obtain ⟨c1, c2⟩ := hc
  have c1 := beq_len c1
  subst c1
  have e1 : co = p.cells.toArray := by rw [← ptCells_spec hp]
  subst e1
  have hl := opsOf_length N row
  simp only [Ans.res, Option.some.injEq, Prod.mk.injEq] at hr1
  obtain ⟨rfl, rfl⟩ := hr1
  have := leS own (opsOf N row) p
  rw [hl] at this
  exact this.like ⟨.rows (ops_like c2), trivial⟩
end Go.Proofs.Ytggdbakgiknogaa


namespace Go.Proofs.Ytggdbakgiknogaa
open Go Vx Go.RowKit
def Cop0 (P : Program) : Cx := ((((Cmn P).addF 70 cnF).addF 27 ofF).addF 33 saF).addF 32 leF
theorem okop0 : CxOk (Cop0 Try.prog) := Cx.addF_ok (Cx.addF_ok (Cx.addF_ok (Cx.addF_ok okmn fun _ _ _ _ _ h hr => cnF_ok h hr) fun _ _ _ _ _ h hr => ofF_ok h hr) fun _ _ _ _ _ h hr => saF_ok h hr) fun _ _ _ _ _ h hr => leF_ok h hr
theorem awE9 : exFun ((Cop0 Try.prog).at 26) 100 Try.f26 (pack [] []) = some (.bool true) := by kernel_rfl
def Caw9 (P : Program) : Cx := (Cop0 P).add 26 [] Faw
theorem okaw9 : CxOk (Caw9 Try.prog) := Cx.add_ok okop0 (n := 100) Try.func26 (by kernel_rfl) fun l v hl h => by
  match l, hl, h with
  | [], _, hh => rw [awE9]; exact hh
end Go.Proofs.Ytggdbakgiknogaa


namespace Go.Proofs.Ytggdbakgiknogaa
open Go Vx Go.RowKit
def opB (P : Program) : Code := bodyOf P 9
theorem opB_eq : Try.f9.body = some (opB Try.prog) := by kernel_rfl
def X1 (n : Nat) (xs : List O3) : List O3 := opsOf n (opRow xs)
def X2 (n : Nat) (xs : List O3) : List O3 := opsOf n (opRow (opsOf n (opRow xs)))
/-- Twin of a list with maps; Of with no error; Same as it answers. -/
def Cpg (P : Program) : Cx := (((Caw9 P).makes 13 [true, false]).good 27 [true, false]).lend 33
theorem okpg : CxOk (Cpg Try.prog) := Cx.lend_ok (Cx.good_ok (Cx.makes_ok okaw9 _ _) _ _) _
/-- Of as it answers. -/
def Cpe9 (P : Program) : Cx := (((Caw9 P).makes 13 [true, false]).lend 27).lend 33
theorem okpe9 : CxOk (Cpe9 Try.prog) := Cx.lend_ok (Cx.lend_ok (Cx.makes_ok okaw9 _ _) _) _
def tw1 {α : Type} (n : Nat) (xs : List O3) (x : Option α) : Option α := gd (lk n) (gd (twT n (opRow xs)) (gn (Nat.beq n 0) x))
def of1 {α : Type} (n : Nat) (xs : List O3) (p : P3) (x : Option α) : Option α := gd (lk n) (gd (oT n (opRow (X1 n xs))) (gn (leastN (chkI (X2 n xs)) p.ckP != 0) x))
def sa1 {α : Type} (n : Nat) (xs : List O3) (x : Option α) : Option α := gd (lk n) (gd (oT n (opRow (X1 n xs))) x)
def ofU {α : Type} (n : Nat) (xs : List O3) (p : P3) (K : Int → Option α) : Option α := gd (lk n) (gd (oT n (opRow (X1 n xs))) (match leastN (chkI (X2 n xs)) p.ckP != 0 with
  | true => K (leastN (chkI (X2 n xs)) p.ckP)
  | false => K 0))
/-- Behind the calls. -/
def opG (own : Bool) (n : Nat) (xs : List O3) (p q : P3) (a b : Nat) (A B : List P3) (is back : Bool) (h i : Int) : St := stOf 119 [(4, .pointer (some ⟨1, 0, none⟩)), (5, .pointer (some ⟨2, 0, none⟩)), (6, .bool false), (7, .slice (some ⟨3, 0, some 0⟩) a 4), (8, vI 0), (9, .slice (some ⟨4, 0, some 0⟩) b 4), (10, vI 0), (11, .bool is), (12, vI h), (13, .bool back), (14, vI i)] [.rows own true 12 n (opRow xs), .cells true 0 p.cells, .cells true 0 q.cells, .rows true true 4 n (ptRow A), .rows true true 4 n (ptRow B)]
def opS (own : Bool) (n : Nat) (xs : List O3) (e f : Int) (is back : Bool) (h i : Int) : St := stOf 119 [(6, .bool false), (8, vI e), (10, vI f), (11, .bool is), (12, vI h), (13, .bool back), (14, vI i)] [.rows own true 12 n (opRow xs)]
theorem opP1 (own : Bool) (n : Nat) (xs : List O3) (p q : P3) : segR ((Cpg Try.prog).into 9 1) 80 6 (opB Try.prog) [4, 5, 6, 7, 8, 9, 10, 11, 12, 13, 14] [.fix 0, .slot 4, .slot 5, .slot 7, .slot 9] (enter Try.f9 [.slice (some ⟨0, 0, some 0⟩) n 12, p.v, q.v] [.rows own true 12 n (opRow xs)]) =
    tw1 n xs (of1 n xs p (tw1 n xs (of1 n xs q (tw1 n xs (sa1 n xs (tw1 n xs (sa1 n xs
      (some (opG own n xs p q (orbL (X2 n xs) p).length (orbL (X2 n xs) q).length (orbA (X2 n xs) p) (orbA (X2 n xs) q) (samV (X2 n xs) p q) (samV (X2 n xs) q p) (samE (X2 n xs) p q) (samE (X2 n xs) q p)))))))))) := by kernel_rfl
theorem opP1e (own : Bool) (n : Nat) (xs : List O3) (p q : P3) : segR ((Cpe9 Try.prog).into 9 1) 80 6 (opB Try.prog) [6, 8, 10, 11, 12, 13, 14] [.fix 0] (enter Try.f9 [.slice (some ⟨0, 0, some 0⟩) n 12, p.v, q.v] [.rows own true 12 n (opRow xs)]) =
    tw1 n xs (ofU n xs p fun e => tw1 n xs (ofU n xs q fun f => tw1 n xs (sa1 n xs (tw1 n xs (sa1 n xs
      (some (opS own n xs e f (samV (X2 n xs) p q) (samV (X2 n xs) q p) (samE (X2 n xs) p q) (samE (X2 n xs) q p)))))))) := by kernel_rfl
/-- An error. -/
def opS7 (own : Bool) (n : Nat) (xs : List O3) (e f h : Int) : St := stOf 119 [(6, .bool false), (8, vI e), (10, vI f), (12, vI h)] [.rows own true 12 n (opRow xs)]
def opR (own : Bool) (n : Nat) (xs : List O3) (b : Bool) : St := stOf 119 [(6, .bool b)] [.rows own true 12 n (opRow xs)]
theorem opP6e (own : Bool) (n : Nat) (xs : List O3) (e f : Int) (b : Bool) (h : Int) : segR ((Caw9 Try.prog).into 9 1) 60 1 (seqDrop 6 (opB Try.prog)) [6, 8, 10, 12] [.fix 0] (opS own n xs e f b b h h) =
    gn (b != b) (gn (h != h) (some (opS7 own n xs e f h))) := by kernel_rfl
theorem opP7e (own : Bool) (n : Nat) (xs : List O3) (e f h : Int) : roundR ((Caw9 Try.prog).into 9 1) 60 (stmt 7 (opB Try.prog)) [6] [6] [.fix 0] [.fix 0] (opS7 own n xs e f h) =
    (match e != 0 with
    | true => some (.ret, opR own n xs (h != 0))
    | false => match f != 0 with
      | true => some (.ret, opR own n xs (h != 0))
      | false => some (.normal, opR own n xs false)) := by kernel_rfl
theorem opHas : hasStmt 7 (opB Try.prog) = true ∧ hasStmt 8 (opB Try.prog) = true ∧ hasStmt 10 (opB Try.prog) = true := ⟨by kernel_rfl, by kernel_rfl, by kernel_rfl⟩
theorem opRet (own : Bool) (n : Nat) (xs : List O3) : (retA Try.prog Try.f9 (.ret, opR own n xs true)).res = some (.bool true, [.rows own true 12 n (opRow xs)]) := by kernel_rfl
/-- No error. -/
def opG8 (own : Bool) (n : Nat) (xs : List O3) (p q : P3) (a b : Nat) (A B : List P3) (is : Bool) (h : Int) : St := stOf 119 [(4, .pointer (some ⟨1, 0, none⟩)), (5, .pointer (some ⟨2, 0, none⟩)), (6, .bool false), (7, .slice (some ⟨3, 0, some 0⟩) a 4), (9, .slice (some ⟨4, 0, some 0⟩) b 4), (11, .bool is), (12, vI h)] [.rows own true 12 n (opRow xs), .cells true 0 p.cells, .cells true 0 q.cells, .rows true true 4 n (ptRow A), .rows true true 4 n (ptRow B)]
theorem opP6 (own : Bool) (n : Nat) (xs : List O3) (p q : P3) (a b : Nat) (A B : List P3) (is : Bool) (h : Int) : segR ((Caw9 Try.prog).into 9 1) 60 2 (seqDrop 6 (opB Try.prog)) [4, 5, 6, 7, 9, 11, 12] [.fix 0, .slot 4, .slot 5, .slot 7, .slot 9] (opG own n xs p q a b A B is is h h) =
    gn (is != is) (gn (h != h) (some (opG8 own n xs p q a b A B is h))) := by kernel_rfl
theorem opP8u (own : Bool) (n : Nat) (xs : List O3) (p q : P3) (a b : Nat) (A B : List P3) (is : Bool) (h : Int) : roundR ((Caw9 Try.prog).into 9 1) 60 (stmt 8 (opB Try.prog)) [6] [6] [.fix 0] [.fix 0] (opG8 own n xs p q a b A B is h) =
    (match p.m != q.m with
    | true => some (.ret, opR own n xs (h == 6))
    | false => some (.normal, opR own n xs false)) := by kernel_rfl
/-- Of one fineness. -/
def opL (own : Bool) (n : Nat) (xs : List O3) (a b : Nat) (A B : List P3) (is : Bool) (h : Int) (c : Int) : St := stOf 119 [(6, .bool false), (7, .slice (some ⟨1, 0, some 0⟩) a 4), (9, .slice (some ⟨2, 0, some 0⟩) b 4), (11, .bool is), (12, vI h), (15, vI c)] [.rows own true 12 n (opRow xs), .rows true true 4 n (ptRow A), .rows true true 4 n (ptRow B)]
theorem opP8 (own : Bool) (n : Nat) (xs : List O3) (p q : P3) (a b : Nat) (A B : List P3) (is : Bool) (h : Int) : segR ((Caw9 Try.prog).into 9 1) 60 2 (seqDrop 8 (opB Try.prog)) [6, 7, 9, 11, 12, 15] [.fix 0, .slot 7, .slot 9] (opG8 own n xs p q a b A B is h) =
    gn (p.m != q.m) (some (opL own n xs a b A B is h 0)) := by kernel_rfl
/-! The loops -/
theorem opFor : isFor 0 (stmt 10 (opB Try.prog)) = true := by kernel_rfl
def opO (P : Program) : Code := forBody (stmt 10 (opB P))
def opX (P : Program) : Code := cL (cL (cR (cR (opO P))))
theorem opO_eq : opO Try.prog = .seq (cL (opO Try.prog)) (.seq (.cond (.tmp 78) .skip (.exit 0)) (.seq (.block 1 (opX Try.prog)) (cR (cR (cR (opO Try.prog)))))) := by kernel_rfl
def opY (P : Program) : Code := cL (cL (cR (cR (opX P))))
theorem opX_eq : opX Try.prog = .seq (cL (opX Try.prog)) (.seq (cL (cR (opX Try.prog))) (.block 2 (.loop (opY Try.prog)))) := by kernel_rfl
/-- In the outer loop. -/
def opH (own : Bool) (n : Nat) (xs : List O3) (a b : Nat) (A B : List P3) (is : Bool) (h : Int) (c : Int) (i : Int) : St := stOf 119 [(6, .bool false), (7, .slice (some ⟨1, 0, some 0⟩) a 4), (9, .slice (some ⟨2, 0, some 0⟩) b 4), (11, .bool is), (12, vI h), (15, vI c), (75, .slice (some ⟨1, 0, some 0⟩) a 4), (76, vI a), (77, vI i)] [.rows own true 12 n (opRow xs), .rows true true 4 n (ptRow A), .rows true true 4 n (ptRow B)]
def opHb (own : Bool) (n : Nat) (xs : List O3) (a b : Nat) (A B : List P3) (is : Bool) (h : Int) (c : Int) (i : Int) (t : Bool) : St := stOf 119 [(6, .bool false), (7, .slice (some ⟨1, 0, some 0⟩) a 4), (9, .slice (some ⟨2, 0, some 0⟩) b 4), (11, .bool is), (12, vI h), (15, vI c), (75, .slice (some ⟨1, 0, some 0⟩) a 4), (76, vI a), (77, vI i), (78, .bool t)] [.rows own true 12 n (opRow xs), .rows true true 4 n (ptRow A), .rows true true 4 n (ptRow B)]
def opI (own : Bool) (n : Nat) (xs : List O3) (a b : Nat) (A B : List P3) (is : Bool) (h : Int) (c : Int) (i : Int) (x : P3) : St := stOf 119 [(6, .bool false), (7, .slice (some ⟨1, 0, some 0⟩) a 4), (9, .slice (some ⟨2, 0, some 0⟩) b 4), (11, .bool is), (12, vI h), (15, vI c), (17, .pointer (some ⟨3, 0, none⟩)), (75, .slice (some ⟨1, 0, some 0⟩) a 4), (76, vI a), (77, vI i)] [.rows own true 12 n (opRow xs), .rows true true 4 n (ptRow A), .rows true true 4 n (ptRow B), .cells true 0 x.cells]
def opJ (own : Bool) (n : Nat) (xs : List O3) (a b : Nat) (A B : List P3) (is : Bool) (h : Int) (c : Int) (i : Int) (x : P3) (j : Int) : St := stOf 119 [(6, .bool false), (7, .slice (some ⟨1, 0, some 0⟩) a 4), (9, .slice (some ⟨2, 0, some 0⟩) b 4), (11, .bool is), (12, vI h), (15, vI c), (17, .pointer (some ⟨3, 0, none⟩)), (75, .slice (some ⟨1, 0, some 0⟩) a 4), (76, vI a), (77, vI i), (81, .slice (some ⟨2, 0, some 0⟩) b 4), (82, vI b), (83, vI j)] [.rows own true 12 n (opRow xs), .rows true true 4 n (ptRow A), .rows true true 4 n (ptRow B), .cells true 0 x.cells]
theorem opHead (own : Bool) (n : Nat) (xs : List O3) (a b : Nat) (A B : List P3) (is : Bool) (h c : Int) : roundR ((Caw9 Try.prog).into 9 1) 60 (forHead (stmt 10 (opB Try.prog))) [6, 7, 9, 11, 12, 15, 75, 76, 77] [6, 7, 9, 11, 12, 15, 75, 76, 77] [.fix 0, .slot 7, .slot 9] [.fix 0, .slot 7, .slot 9] (opL own n xs a b A B is h c) = some (.normal, opH own n xs a b A B is h c 0) := by kernel_rfl
theorem opA (own : Bool) (n : Nat) (xs : List O3) (a b : Nat) (A B : List P3) (is : Bool) (h c i : Int) : roundR ((Caw9 Try.prog).into 9 1) 60 (cL (opO Try.prog)) [6, 7, 9, 11, 12, 15, 75, 76, 77, 78] [6, 7, 9, 11, 12, 15, 75, 76, 77, 78] [.fix 0, .slot 7, .slot 9] [.fix 0, .slot 7, .slot 9] (opH own n xs a b A B is h c i) = some (.normal, opHb own n xs a b A B is h c i (decide (i < (a : Int)))) := by kernel_rfl
theorem opX0 (own : Bool) (n : Nat) (xs : List O3) (a b : Nat) (A B : List P3) (is : Bool) (h c : Int) (i : Nat) : roundR ((Caw9 Try.prog).into 9 1) 60 (cL (opX Try.prog)) [6, 7, 9, 11, 12, 15, 17, 75, 76, 77] [6, 7, 9, 11, 12, 15, 17, 75, 76, 77] [.fix 0, .slot 7, .slot 9, .slot 17] [.fix 0, .slot 7, .slot 9, .slot 17] (opHb own n xs a b A B is h c (i : Int) true) = gd (boundsI i a) (some (.normal, opI own n xs a b A B is h c (i : Int) (atP A i))) := by kernel_rfl
theorem opX1 (own : Bool) (n : Nat) (xs : List O3) (a b : Nat) (A B : List P3) (is : Bool) (h c i : Int) (x : P3) : roundR ((Caw9 Try.prog).into 9 1) 60 (cL (cR (opX Try.prog))) [6, 7, 9, 11, 12, 15, 17, 75, 76, 77, 81, 82, 83] [6, 7, 9, 11, 12, 15, 17, 75, 76, 77, 81, 82, 83] [.fix 0, .slot 7, .slot 9, .slot 17] [.fix 0, .slot 7, .slot 9, .slot 17] (opI own n xs a b A B is h c i x) = some (.normal, opJ own n xs a b A B is h c i x 0) := by kernel_rfl
theorem opYr (own : Bool) (n : Nat) (xs : List O3) (a b : Nat) (A B : List P3) (is : Bool) (h c i : Int) (x : P3) (j : Nat) : roundR ((Caw9 Try.prog).into 9 1) 60 (opY Try.prog) [6, 7, 9, 11, 12, 15, 17, 75, 76, 77, 81, 82, 83] [6, 7, 9, 11, 12, 15, 75, 76, 77] [.fix 0, .slot 7, .slot 9, .slot 17] [.fix 0, .slot 7, .slot 9] (opJ own n xs a b A B is h c i x (j : Int)) =
    (match decide ((j : Int) < (b : Int)) with
    | true => gd (boundsI j b) (match x.eqB (atP B j) with
      | true => some (.normal, opJ own n xs a b A B is h (W (c + 1)) i x (W ((j : Int) + 1)))
      | false => some (.normal, opJ own n xs a b A B is h c i x (W ((j : Int) + 1))))
    | false => some (.exit 2, opH own n xs a b A B is h c i)) := by kernel_rfl
theorem opN (own : Bool) (n : Nat) (xs : List O3) (a b : Nat) (A B : List P3) (is : Bool) (h c i : Int) : roundR ((Caw9 Try.prog).into 9 1) 60 (cR (cR (cR (opO Try.prog)))) [6, 7, 9, 11, 12, 15, 75, 76, 77] [6, 7, 9, 11, 12, 15, 75, 76, 77] [.fix 0, .slot 7, .slot 9] [.fix 0, .slot 7, .slot 9] (opH own n xs a b A B is h c i) = some (.normal, opH own n xs a b A B is h c (W (i + 1))) := by kernel_rfl
/-- The end. -/
def opTail (own : Bool) (n : Nat) (xs : List O3) (is : Bool) (c : Int) : Option (Exit × St) := match !is with
  | true => some (.ret, opR own n xs (c == 0))
  | false => some (.ret, opR own n xs false)
theorem opEnd (own : Bool) (n : Nat) (xs : List O3) (a b : Nat) (A B : List P3) (is : Bool) (h c i : Int) : roundR ((Caw9 Try.prog).into 9 1) 60 (seqDrop 11 (opB Try.prog)) [6] [6] [.fix 0] [.fix 0] (opHb own n xs a b A B is h c i false) =
    (match h == 0 with
    | true => match is with
      | true => match c == (a : Int) with
        | true => match c == (b : Int) with
          | true => some (.ret, opR own n xs true)
          | false => opTail own n xs is c
        | false => opTail own n xs is c
      | false => opTail own n xs is c
    | false => some (.ret, opR own n xs false)) := by kernel_rfl
/-- A list of nothing. -/
def Cpz (P : Program) : Cx := (((Caw9 P).makes 13 [true]).lend 27).lend 33
theorem okpz : CxOk (Cpz Try.prog) := Cx.lend_ok (Cx.lend_ok (Cx.makes_ok okaw9 _ _) _) _
def Cpy (P : Program) : Cx := (((Caw9 P).makes 13 [true, true]).lend 27).lend 33
theorem okpy : CxOk (Cpy Try.prog) := Cx.lend_ok (Cx.lend_ok (Cx.makes_ok okaw9 _ _) _) _
def opZe (p q : P3) (m : Mem) : Option (Value × Mem) :=
    match leastN (leastN 5 p.ckP) q.ckP != leastN (leastN 5 q.ckP) p.ckP with
    | true => some (.bool false, m)
    | false => match leastN 5 p.ckP != 0 with
      | true => some (.bool (leastN (leastN 5 p.ckP) q.ckP != 0), m)
      | false => match leastN 5 q.ckP != 0 with
        | true => some (.bool (leastN (leastN 5 p.ckP) q.ckP != 0), m)
        | false => match p.m != q.m with
          | true => some (.bool (leastN (leastN 5 p.ckP) q.ckP == 6), m)
          | false => match leastN (leastN 5 p.ckP) q.ckP == 0 with
            | true => some (.bool true, m)
            | false => some (.bool false, m)
theorem opZ0 (p q : P3) : exT ((Cpz Try.prog).at 9) 80 Try.f9 [.slice none 0 0, p.v, q.v] [] [] = opZe p q [] := by kernel_rfl
theorem opZ1 (own : Bool) (p q : P3) : exT ((Cpy Try.prog).at 9) 80 Try.f9 [.slice (some ⟨0, 0, some 0⟩) 0 12, p.v, q.v] [.rows own true 12 0 (opRow [])] [.fix 0] = opZe p q [.rows own true 12 0 (opRow [])] := by kernel_rfl
end Go.Proofs.Ytggdbakgiknogaa


namespace Go.Proofs.Ytggdbakgiknogaa
open Go Vx Go.RowKit
theorem exit_code {P : Program} {B id : Nat} {st : St} : CodeSem P B (.exit id) st (.exit id) st := fun _ _ _ _ a w _ hQ hr => wp_exit (hQ a w hr)
theorem head_T {P : Program} {B t id : Nat} {r rest : Code} {st s1 s2 : St} {e : Exit} (h15 : CodeSem P B r st .normal s1) (ht : s1.tmps[t]? = some (.bool true)) (hrest : CodeSem P B rest s1 e s2) : CodeSem P B (.seq r (.seq (.cond (.tmp t) .skip (.exit id)) rest)) st e s2 := h15.seq ((CodeSem.condT ht skip_code).seq hrest)
theorem head_F {P : Program} {B t id : Nat} {r rest : Code} {st s1 : St} (h15 : CodeSem P B r st .normal s1) (ht : s1.tmps[t]? = some (.bool false)) : CodeSem P B (.seq r (.seq (.cond (.tmp t) .skip (.exit id)) rest)) st (.exit id) s1 := h15.seq (CodeSem.out (CodeSem.condF ht exit_code) (by simp))
theorem loop_leaveC {P : Program} {B : Nat} {x : Code} {st s : St} {e : Exit} (h : CodeSem P B x st e s) (he : e ≠ .normal) : LoopSem P B x st e s := by
  intro Q w0 keep r0 a w hB hQ hr
  refine LoopsTo.round (h _ w0 keep r0 a w hB ?_ hr)
  intro a' w' hr'
  revert he hQ hr'
  cases e <;> intro he hQ hr' <;> first | exact absurd rfl he | exact hQ a' w' hr'
theorem loop_nextC {P : Program} {B : Nat} {x : Code} {st s s3 : St} {e : Exit} (h : CodeSem P B x st .normal s) (hn : LoopSem P B x s e s3) : LoopSem P B x st e s3 := by
  intro Q w0 keep r0 a w hB hQ hr
  refine LoopsTo.round (h _ w0 keep r0 a w hB ?_ hr)
  intro a' w' hr'
  exact hn Q w0 keep r0 a' w' hB hQ hr'
set_option maxRecDepth 100000 in
theorem opIn : InBody ((Caw9 Try.prog).into 9 1) (forHead (stmt 10 (opB Try.prog))) ∧ InBody ((Caw9 Try.prog).into 9 1) (opO Try.prog) := for_in (C := Caw9 Try.prog) (f := 9) (B := 1) (id := 0) (k := 10) (fn := Try.f9) (b := opB Try.prog) Try.func9 opB_eq opFor
theorem opInX : InBody ((Caw9 Try.prog).into 9 1) (opX Try.prog) := opIn.2.right.right.left.left
theorem opInY : InBody ((Caw9 Try.prog).into 9 1) (opY Try.prog) := opInX.right.right.left.left
theorem drop_atP {Y : List P3} {b j : Nat} (hb : b ≤ Y.length) (hj : j < b) : (Y.take b).drop j = atP Y j :: (Y.take b).drop (j + 1) := by
  have hl : j < (Y.take b).length := by rw [List.length_take]; omega
  rw [List.drop_eq_getElem_cons hl, atP_get (by omega : j < Y.length)]
  simp
theorem drop_endP {Y : List P3} {b : Nat} : (Y.take b).drop b = [] := List.drop_eq_nil_of_le (by rw [List.length_take]; omega)
theorem W_succ {k : Nat} (h : k ≤ 4000000000) : W ((k : Int) + 1) = ((k + 1 : Nat) : Int) := by rw [W_in (by omega)]; simp
theorem opYl (own : Bool) (n : Nat) (xs : List O3) (a b : Nat) (A B : List P3) (is : Bool) (h i : Int) (x : P3) (hb : b ≤ B.length) (hn : b ≤ 1000) : ∀ (k j c : Nat), b - j ≤ k → j ≤ b → c + (b - j) ≤ 1000000 → LoopSem Try.prog 1 (opY Try.prog) (opJ own n xs a b A B is h (c : Int) i x (j : Int)) (.exit 2) (opH own n xs a b A B is h ((cmI x ((B.take b).drop j) c : Nat) : Int) i) := by
  intro k
  have out : ∀ j c : Nat, j = b → LoopSem Try.prog 1 (opY Try.prog) (opJ own n xs a b A B is h (c : Int) i x (j : Int)) (.exit 2) (opH own n xs a b A B is h ((cmI x ((B.take b).drop j) c : Nat) : Int) i) := by
    intro j c hj
    subst hj
    have hr := opYr own n xs a j A B is h (c : Int) i x j
    rw [show decide ((j : Int) < (j : Int)) = false by simp] at hr
    rw [drop_endP]
    exact loop_leave (C := Caw9 Try.prog) okaw9 (f := 9) (B := 1) opInY hr (by simp)
  induction k with
  | zero => intro j c h1 h2 _; exact out j c (by omega)
  | succ k ih =>
    intro j c h1 h2 h3
    by_cases hj : j < b
    · have hr := opYr own n xs a b A B is h (c : Int) i x j
      rw [show decide ((j : Int) < (b : Int)) = true by simpa using hj, bd_ok' hj, W_succ (by omega), W_succ (by omega)] at hr
      simp only [gd_true] at hr
      rw [drop_atP hb hj]
      simp only [cmI]
      cases hx : x.eqB (atP B j) with
      | true =>
        rw [hx] at hr
        exact loop_next (C := Caw9 Try.prog) okaw9 (f := 9) (B := 1) opInY hr (StLike.refl _) (ih (j + 1) (c + 1) (by omega) (by omega) (by omega))
      | false =>
        rw [hx] at hr
        exact loop_next (C := Caw9 Try.prog) okaw9 (f := 9) (B := 1) opInY hr (StLike.refl _) (ih (j + 1) c (by omega) (by omega) (by omega))
    · exact out j c (by omega)
theorem t78 (own : Bool) (n : Nat) (xs : List O3) (a b : Nat) (A B : List P3) (is : Bool) (h c i : Int) (t : Bool) : (opHb own n xs a b A B is h c i t).tmps[78]? = some (.bool t) := rfl
theorem opOl (own : Bool) (n : Nat) (xs : List O3) (a b : Nat) (A B : List P3) (is : Bool) (h : Int) (hb : b ≤ B.length) (ha : a ≤ A.length) (hn : b ≤ 200) (hm : a ≤ 200) : ∀ (k i c : Nat), a - i ≤ k → i ≤ a → c ≤ i * b → LoopSem Try.prog 1 (opO Try.prog) (opH own n xs a b A B is h (c : Int) (i : Int)) (.exit 0) (opHb own n xs a b A B is h ((cmO (B.take b) ((A.take a).drop i) c : Nat) : Int) (a : Int) false) := by
  intro k
  have hA : ∀ i c : Nat, CodeSem Try.prog 1 (cL (opO Try.prog)) (opH own n xs a b A B is h (c : Int) (i : Int)) .normal (opHb own n xs a b A B is h (c : Int) (i : Int) (decide ((i : Int) < (a : Int)))) := fun i c => end_rule (C := Caw9 Try.prog) okaw9 (f := 9) (B := 1) opIn.2.left (opA own n xs a b A B is h (c : Int) (i : Int))
  have out : ∀ i c : Nat, i = a → LoopSem Try.prog 1 (opO Try.prog) (opH own n xs a b A B is h (c : Int) (i : Int)) (.exit 0) (opHb own n xs a b A B is h ((cmO (B.take b) ((A.take a).drop i) c : Nat) : Int) (a : Int) false) := by
    intro i c hi
    subst hi
    have h1 := hA i c
    rw [show decide ((i : Int) < (i : Int)) = false by simp] at h1
    rw [drop_endP]
    refine loop_leaveC ?_ (by simp)
    rw [opO_eq]
    exact head_F h1 (t78 _ _ _ _ _ _ _ _ _ _ _ _)
  induction k with
  | zero => intro i c h1 h2 _; exact out i c (by omega)
  | succ k ih =>
    intro i c h1 h2 h3
    by_cases hi : i < a
    · have c1 := hA i c
      rw [show decide ((i : Int) < (a : Int)) = true by simpa using hi] at c1
      have r2 := opX0 own n xs a b A B is h (c : Int) i
      rw [bd_ok' hi, gd_true] at r2
      have c2 := end_rule (C := Caw9 Try.prog) okaw9 (f := 9) (B := 1) opInX.left r2
      have c3 := end_rule (C := Caw9 Try.prog) okaw9 (f := 9) (B := 1) opInX.right.left (opX1 own n xs a b A B is h (c : Int) (i : Int) (atP A i))
      have hib : i * b ≤ 200 * 200 := Nat.mul_le_mul (by omega) hn
      have c4 := opYl own n xs a b A B is h (i : Int) (atP A i) hb (by omega) b 0 c (by omega) (by omega) (by omega)
      rw [List.drop_zero] at c4
      have c5 : CodeSem Try.prog 1 (opX Try.prog) (opHb own n xs a b A B is h (c : Int) (i : Int) true) .normal (opH own n xs a b A B is h ((cmI (atP A i) (B.take b) c : Nat) : Int) (i : Int)) := by
        rw [opX_eq]
        exact c2.seq (c3.seq (CodeSem.block (CodeSem.loop c4)))
      have r6 := opN own n xs a b A B is h ((cmI (atP A i) (B.take b) c : Nat) : Int) (i : Int)
      rw [W_succ (by omega)] at r6
      have c6 := end_rule (C := Caw9 Try.prog) okaw9 (f := 9) (B := 1) opIn.2.right.right.right r6
      have body : CodeSem Try.prog 1 (opO Try.prog) (opH own n xs a b A B is h (c : Int) (i : Int)) .normal (opH own n xs a b A B is h ((cmI (atP A i) (B.take b) c : Nat) : Int) ((i + 1 : Nat) : Int)) := by
        rw [opO_eq]
        exact head_T c1 (t78 _ _ _ _ _ _ _ _ _ _ _ _) ((CodeSem.blockN c5).seq c6)
      rw [drop_atP ha hi]
      simp only [cmO]
      have hle := cmI_le (atP A i) (B.take b) c
      rw [List.length_take] at hle
      exact loop_nextC body (ih (i + 1) _ (by omega) (by omega) (by rw [Nat.add_mul]; omega))
    · exact out i c (by omega)
/-! The whole -/
theorem tw1_ok {α : Type} {xs : List O3} (h1 : xs ≠ []) (h2 : xs.length ≤ 1500000) (x : Option α) : tw1 xs.length xs x = x := by
  unfold tw1
  have hpos : 1 ≤ xs.length := List.length_pos_iff.2 h1
  have e0 : Nat.beq xs.length 0 = false := by
    cases hb : Nat.beq xs.length 0 with
    | false => rfl
    | true => have := Nat.eq_of_beq_eq_true hb; omega
  have tw : twT xs.length (opRow xs) = true := by unfold twT; rw [Nat.beq_refl, okOps_opRow]; simpa using h2
  rw [lk_true, tw, e0]
  rfl
theorem oTok (X : List O3) (n : Nat) : oT n (opRow X) = true := by unfold oT; rw [Nat.beq_refl, okOps_opRow]; rfl
theorem sa1_ok {α : Type} (n : Nat) (xs : List O3) (x : Option α) : sa1 n xs x = x := by
  unfold sa1
  rw [lk_true, oTok]
  rfl
theorem X2_eq (xs : List O3) : X2 xs.length xs = xs := by unfold X2; rw [opsOf_row rfl, opsOf_row rfl]
theorem of1_ok {α : Type} {xs : List O3} {p : P3} (h : leastN (chkI xs) p.ckP = 0) (x : Option α) : of1 xs.length xs p x = x := by
  unfold of1
  rw [lk_true, oTok, X2_eq, show (leastN (chkI xs) p.ckP != 0) = false by simpa using h]
  rfl
theorem ofU_ok {α : Type} {xs : List O3} {p : P3} (K : Int → Option α) : ofU xs.length xs p K = K (leastN (chkI xs) p.ckP) := by
  unfold ofU
  rw [lk_true, oTok, X2_eq]
  by_cases h : leastN (chkI xs) p.ckP = 0
  · rw [show (leastN (chkI xs) p.ckP != 0) = false by simpa using h, h]
    rfl
  · rw [show (leastN (chkI xs) p.ckP != 0) = true by simpa using h]
    rfl
theorem gn_self {α : Type} (b : Bool) (x : Option α) : gn (b != b) x = x := by rw [show (b != b) = false by simp]; rfl
theorem gn_selfI {α : Type} (b : Int) (x : Option α) : gn (b != b) x = x := by rw [show (b != b) = false by simp]; rfl
theorem samE_err {X : List O3} {p q : P3} (h : leastN (chkI X) p.ckP ≠ 0 ∨ leastN (chkI X) q.ckP ≠ 0) : samE X p q ≠ 0 := by
  have hne : leastN (leastN (chkI X) p.ckP) q.ckP ≠ 0 := fun e => by
    obtain ⟨e1, e2⟩ := leastN_zero.1 e
    rcases h with h | h
    · exact h e1
    · exact h (leastN_zero.2 ⟨(leastN_zero.1 e1).1, e2⟩)
  unfold samE
  rw [show (leastN (leastN (chkI X) p.ckP) q.ckP == 0) = false by simpa using hne]
  exact hne
theorem op_err (own : Bool) (xs : List O3) (p q : P3) (h0 : xs ≠ []) (hn : xs.length ≤ 1500000) (h : leastN (chkI xs) p.ckP ≠ 0 ∨ leastN (chkI xs) q.ckP ≠ 0) : CodeSem Try.prog 1 (opB Try.prog) (enter Try.f9 [.slice (some ⟨0, 0, some 0⟩) xs.length 12, p.v, q.v] [.rows own true 12 xs.length (opRow xs)]) .ret (opR own xs.length xs true) := by
  have r1 := opP1e own xs.length xs p q
  rw [tw1_ok h0 hn, ofU_ok, tw1_ok h0 hn, ofU_ok, tw1_ok h0 hn, sa1_ok, tw1_ok h0 hn, sa1_ok, X2_eq, samV_sym xs q p, samE_sym xs q p] at r1
  have r2 := opP6e own xs.length xs (leastN (chkI xs) p.ckP) (leastN (chkI xs) q.ckP) (samV xs p q) (samE xs p q)
  rw [gn_self, gn_selfI] at r2
  have r3 := opP7e own xs.length xs (leastN (chkI xs) p.ckP) (leastN (chkI xs) q.ckP) (samE xs p q)
  have hE : (samE xs p q != 0) = true := by simpa using samE_err h
  have r4 : roundR ((Caw9 Try.prog).into 9 1) 60 (stmt 7 (opB Try.prog)) [6] [6] [.fix 0] [.fix 0] (opS7 own xs.length xs (leastN (chkI xs) p.ckP) (leastN (chkI xs) q.ckP) (samE xs p q)) = some (.ret, opR own xs.length xs true) := by
    rw [r3, hE]
    by_cases hp : leastN (chkI xs) p.ckP = 0
    · have hq := h.resolve_left fun k => k hp
      rw [show (leastN (chkI xs) p.ckP != 0) = false by simpa using hp, show (leastN (chkI xs) q.ckP != 0) = true by simpa using hq]
    · rw [show (leastN (chkI xs) p.ckP != 0) = true by simpa using hp]
  refine seg_rule (C := Cpe9 Try.prog) okpe9 (f := 9) (B := 1) (k := 6) (Or.inl ⟨Try.f9, opB Try.prog, Try.func9, opB_eq, fun _ hx => hx⟩) r1 ?_
  refine seg_rule (C := Caw9 Try.prog) okaw9 (f := 9) (B := 1) (k := 1) (bodyOf_in Try.func9 opB_eq) r2 ?_
  rw [seqDrop_drop]
  exact stmt_out opHas.1 (end_rule (C := Caw9 Try.prog) okaw9 (f := 9) (B := 1) (stmt_in Try.func9 opB_eq) r4) (by simp)
theorem samE_ok {X : List O3} {p q : P3} (h1 : leastN (chkI X) p.ckP = 0) (h2 : leastN (chkI X) q.ckP = 0) : leastN (leastN (chkI X) p.ckP) q.ckP = 0 := leastN_zero.2 ⟨h1, (leastN_zero.1 h2).2⟩
theorem op_good (own : Bool) (xs : List O3) (p q : P3) (h0 : xs ≠ []) (hn : xs.length ≤ 1500000) (hp : leastN (chkI xs) p.ckP = 0) (hq : leastN (chkI xs) q.ckP = 0) : CodeSem Try.prog 1 (opB Try.prog) (enter Try.f9 [.slice (some ⟨0, 0, some 0⟩) xs.length 12, p.v, q.v] [.rows own true 12 xs.length (opRow xs)]) .ret (opR own xs.length xs true) := by
  have r1 := opP1 own xs.length xs p q
  rw [tw1_ok h0 hn, of1_ok hp, tw1_ok h0 hn, of1_ok hq, tw1_ok h0 hn, sa1_ok, tw1_ok h0 hn, sa1_ok, X2_eq, samV_sym xs q p, samE_sym xs q p] at r1
  refine seg_rule (C := Cpg Try.prog) okpg (f := 9) (B := 1) (k := 6) (Or.inl ⟨Try.f9, opB Try.prog, Try.func9, opB_eq, fun _ hx => hx⟩) r1 ?_
  have r2 := opP6 own xs.length xs p q (orbL xs p).length (orbL xs q).length (orbA xs p) (orbA xs q) (samV xs p q) (samE xs p q)
  rw [gn_self, gn_selfI] at r2
  refine seg_rule (C := Caw9 Try.prog) okaw9 (f := 9) (B := 1) (k := 2) (bodyOf_in Try.func9 opB_eq) r2 ?_
  rw [seqDrop_drop]
  have hE := samE_ok hp hq
  obtain ⟨hc, hp2⟩ := leastN_zero.1 hp
  obtain ⟨_, hq2⟩ := leastN_zero.1 hq
  have hpf := ckP_zero hp2
  have hqf := ckP_zero hq2
  obtain ⟨_, hX, hl⟩ := chk_grp hc
  by_cases hm : p.m = q.m
  · have r3 := opP8 own xs.length xs p q (orbL xs p).length (orbL xs q).length (orbA xs p) (orbA xs q) (samV xs p q) (samE xs p q)
    rw [show (p.m != q.m) = false by simpa using hm] at r3
    refine seg_rule (C := Caw9 Try.prog) okaw9 (f := 9) (B := 1) (k := 2) (bodyOf_in Try.func9 opB_eq) r3 ?_
    rw [seqDrop_drop]
    have lp := orbL_len xs p
    have lq := orbL_len xs q
    have hloop := opOl own xs.length xs (orbL xs p).length (orbL xs q).length (orbA xs p) (orbA xs q) (samV xs p q) (samE xs p q) (by rw [orbA_len]; exact lq) (by rw [orbA_len]; exact lp) (by omega) (by omega) (orbL xs p).length 0 0 (by omega) (by omega) (by omega)
    rw [orbA_take, orbA_take, List.drop_zero] at hloop
    refine stmt_rule opHas.2.2 (for_rule opFor (end_rule (C := Caw9 Try.prog) okaw9 (f := 9) (B := 1) opIn.1 (opHead own xs.length xs (orbL xs p).length (orbL xs q).length (orbA xs p) (orbA xs q) (samV xs p q) (samE xs p q) 0)) hloop) ?_
    refine end_rule (C := Caw9 Try.prog) okaw9 (f := 9) (B := 1) (bodyOf_in Try.func9 opB_eq) (n := 60) (mask := [6]) (sp := [.fix 0]) ?_
    rw [opEnd]
    have e0 : samE xs p q = 0 := by unfold samE; rw [hE]; simp [hm]
    have v0 : samV xs p q = cnB q (imgs xs p) := by unfold samV; rw [hE]; simp [hm]
    rw [e0]
    simp only [beq_self_eq_true]
    cases hv : samV xs p q with
    | true =>
      have hin : q ∈ imgs xs p := by rw [v0] at hv; exact cnB_iff.1 hv
      have ho := orb_one hX hpf hin
      rw [ho, cmO_in (orbL xs p) (strictP_nodup (orbL_strict xs p)) (orbL xs p) 0 fun _ hx => hx]
      simp
    | false =>
      have hin : q ∉ imgs xs p := fun k => by rw [v0, cnB_iff.2 k] at hv; cases hv
      rw [cmO_out (orbL xs q) (orbL xs p) 0 (orb_apart hX hpf hqf hin)]
      rfl
  · have r3 := opP8u own xs.length xs p q (orbL xs p).length (orbL xs q).length (orbA xs p) (orbA xs q) (samV xs p q) (samE xs p q)
    have e6 : samE xs p q = 6 := by unfold samE; rw [hE, show (p.m == q.m) = false by simpa using hm]; rfl
    rw [show (p.m != q.m) = true by simpa using hm, e6] at r3
    rw [e6]
    exact stmt_out opHas.2.1 (end_rule (C := Caw9 Try.prog) okaw9 (f := 9) (B := 1) (stmt_in Try.func9 opB_eq) r3) (by simp)
theorem opZ_true (p q : P3) (m : Mem) : opZe p q m = some (.bool true, m) := by
  unfold opZe
  rcases ckP_cases p with h1 | h1 <;> rcases ckP_cases q with h2 | h2 <;> rw [h1, h2] <;> rfl
theorem op_sem (own : Bool) (xs : List O3) (p q : P3) (hn : xs.length ≤ 1500000) : MemSem Try.prog 9 [.slice (some ⟨0, 0, some 0⟩) xs.length 12, p.v, q.v] [.rows own true 12 xs.length (opRow xs)] (.bool true) [.rows own true 12 xs.length (opRow xs)] := by
  by_cases h0 : xs = []
  · subst h0
    exact exT_ok okpy Try.func9 (by kernel_rfl) ((opZ1 own p q).trans (opZ_true p q _))
  · refine body_mem (f := 9) Try.func9 opB_eq (by kernel_rfl) ?_ (opRet own xs.length xs)
    by_cases hp : leastN (chkI xs) p.ckP = 0
    · by_cases hq : leastN (chkI xs) q.ckP = 0
      · exact op_good own xs p q h0 hn hp hq
      · exact op_err own xs p q h0 hn (Or.inr hq)
    · exact op_err own xs p q h0 hn (Or.inl hp)
theorem orbitParts_nil (W : World) (p q : P3) : Calls Try.prog 9 #[.slice none 0 0, p.v, q.v] W fun e W' => e = .returned (.bool true) ∧ Below W.heap.size W W' := by
  have h : PlainSem Try.prog 9 [.slice none 0 0, p.v, q.v] (.bool true) := (exT_ok okpz Try.func9 (by kernel_rfl) ((opZ0 p q).trans (opZ_true p q []))).plain (by intro x hx; simp only [List.mem_cons, List.not_mem_nil, or_false] at hx; rcases hx with rfl | rfl | rfl <;> rfl) rfl
  exact (h.2 W).mono fun _ _ hq => ⟨hq.1, hq.2.1⟩
theorem orbitParts_walk {W : World} {a : Addr} {xs : List O3} {cap : Nat} (hn : xs.length ≤ 1048576) (ha : OpsAt W a xs) (hc : xs.length ≤ cap) (p q : P3) : Calls Try.prog 9 #[.slice (some a) xs.length cap, p.v, q.v] W fun e W' => e = .returned (.bool true) ∧ Below W.heap.size W W' :=
  (op_sem false xs p q (by omega)).calls ha hc (more := [p.v, q.v]) (more' := [p.v, q.v]) ⟨(R_plain (r := _) (v := p.v) rfl).2 rfl, (R_plain (r := _) (v := q.v) rfl).2 rfl, trivial⟩
end Go.Proofs.Ytggdbakgiknogaa


namespace Go.Proofs.Ytggdbakgiknogaa
open Go Vx Go.RowKit
def omB (P : Program) : Code := bodyOf P 8
theorem omB_eq : Try.f8.body = some (omB Try.prog) := by kernel_rfl
def omR (own : Bool) (n : Nat) (xs : List O3) (b : Bool) : St := stOf 172 [(6, .bool b)] [.rows own true 12 n (opRow xs)]
theorem omRet (own : Bool) (n : Nat) (xs : List O3) : (retA Try.prog Try.f8 (.ret, omR own n xs true)).res = some (.bool true, [.rows own true 12 n (opRow xs)]) := by kernel_rfl
/-- Of with an error. -/
def Cme (P : Program) : Cx := ((Caw9 P).makes 13 [true, false]).road 27 [true, true]
theorem okme : CxOk (Cme Try.prog) := Cx.road_ok (Cx.makes_ok okaw9 _ _) _ _
def omS (own : Bool) (n : Nat) (xs : List O3) (e : Int) : St := stOf 172 [(6, .bool false), (8, vI e)] [.rows own true 12 n (opRow xs)]
theorem omP1e (own : Bool) (n : Nat) (xs : List O3) (p : P3) (i : Int) : segR ((Cme Try.prog).into 8 1) 80 3 (omB Try.prog) [6, 8] [.fix 0] (enter Try.f8 [.slice (some ⟨0, 0, some 0⟩) n 12, p.v, vI i] [.rows own true 12 n (opRow xs)]) =
    tw1 n xs (gd (lk n) (gd (oT n (opRow (X1 n xs))) (gd (leastN (chkI (X2 n xs)) p.ckP != 0) (some (omS own n xs (leastN (chkI (X2 n xs)) p.ckP)))))) := by kernel_rfl
theorem omP3e (own : Bool) (n : Nat) (xs : List O3) (e : Int) : roundR ((Caw9 Try.prog).into 8 1) 60 (stmt 3 (omB Try.prog)) [6] [6] [.fix 0] [.fix 0] (omS own n xs e) =
    (match e != 0 with
    | true => some (.ret, omR own n xs true)
    | false => some (.normal, omR own n xs false)) := by kernel_rfl
theorem omHas : hasStmt 3 (omB Try.prog) = true ∧ hasStmt 8 (omB Try.prog) = true ∧ hasStmt 13 (omB Try.prog) = true := ⟨by kernel_rfl, by kernel_rfl, by kernel_rfl⟩
/-- No error. -/
def Cmg (P : Program) : Cx := ((Caw9 P).makes 13 [true, false]).good 27 [true, false]
theorem okmg : CxOk (Cmg Try.prog) := Cx.good_ok (Cx.makes_ok okaw9 _ _) _ _
def omG (own : Bool) (n : Nat) (xs : List O3) (p q : P3) (a b : Nat) (A B : List P3) : St := stOf 172 [(0, .slice (some ⟨0, 0, some 0⟩) n 12), (4, .pointer (some ⟨1, 0, none⟩)), (6, .bool false), (7, .slice (some ⟨3, 0, some 0⟩) a 4), (9, .pointer (some ⟨2, 0, none⟩)), (10, .slice (some ⟨4, 0, some 0⟩) b 4)] [.rows own true 12 n (opRow xs), .cells true 0 p.cells, .cells true 0 q.cells, .rows true true 4 n (ptRow A), .rows true true 4 n (ptRow B)]
def omQ (n : Nat) (xs : List O3) (p : P3) (i : Int) : P3 := (atO xs (idxI i n)).appF p
theorem omP1 (own : Bool) (n : Nat) (xs : List O3) (p : P3) (i : Int) : segR ((Cmg Try.prog).into 8 1) 80 8 (omB Try.prog) [0, 4, 6, 7, 9, 10] [.fix 0, .slot 4, .slot 9, .slot 7, .slot 10] (enter Try.f8 [.slice (some ⟨0, 0, some 0⟩) n 12, p.v, vI i] [.rows own true 12 n (opRow xs)]) =
    tw1 n xs (of1 n xs p (gn ((n : Int) == 0) (gn ((n : Int) == 0) (gd (boundsI (idxI i n) n) (tw1 n xs (of1 n xs (omQ n xs p i) (gn ((atO xs (idxI i n)).appE p != 0) (gn (((orbL (X2 n xs) p).length : Int) != ((orbL (X2 n xs) (omQ n xs p i)).length : Int))
      (some (omG own n xs p (omQ n xs p i) (orbL (X2 n xs) p).length (orbL (X2 n xs) (omQ n xs p i)).length (orbA (X2 n xs) p) (orbA (X2 n xs) (omQ n xs p i))))))))))) ) := by kernel_rfl
/-! The lists, one by one -/
theorem omFor1 : isFor 0 (stmt 8 (omB Try.prog)) = true := by kernel_rfl
def omH (own : Bool) (n : Nat) (xs : List O3) (p q : P3) (a b : Nat) (A B : List P3) (j : Int) : St := stOf 172 [(0, .slice (some ⟨0, 0, some 0⟩) n 12), (4, .pointer (some ⟨1, 0, none⟩)), (6, .bool false), (7, .slice (some ⟨3, 0, some 0⟩) a 4), (9, .pointer (some ⟨2, 0, none⟩)), (10, .slice (some ⟨4, 0, some 0⟩) b 4), (73, vI a), (74, vI j)] [.rows own true 12 n (opRow xs), .cells true 0 p.cells, .cells true 0 q.cells, .rows true true 4 n (ptRow A), .rows true true 4 n (ptRow B)]
theorem omHead (own : Bool) (n : Nat) (xs : List O3) (p q : P3) (a b : Nat) (A B : List P3) : roundR ((Caw9 Try.prog).into 8 1) 60 (forHead (stmt 8 (omB Try.prog))) [0, 4, 6, 7, 9, 10, 73, 74] [0, 4, 6, 7, 9, 10, 73, 74] [.fix 0, .slot 4, .slot 9, .slot 7, .slot 10] [.fix 0, .slot 4, .slot 9, .slot 7, .slot 10] (omG own n xs p q a b A B) = some (.normal, omH own n xs p q a b A B 0) := by kernel_rfl
theorem omRnd (own : Bool) (n : Nat) (xs : List O3) (p q : P3) (a b : Nat) (A B : List P3) (j : Nat) : roundR ((Caw9 Try.prog).into 8 1) 60 (forBody (stmt 8 (omB Try.prog))) [0, 4, 6, 7, 9, 10, 73, 74] [0, 4, 6, 7, 9, 10] [.fix 0, .slot 4, .slot 9, .slot 7, .slot 10] [.fix 0, .slot 4, .slot 9, .slot 7, .slot 10] (omH own n xs p q a b A B (j : Int)) =
    (match decide ((j : Int) < (a : Int)) with
    | true => gd (boundsI j a) (gd (boundsI j b) (match !((atP A j).eqB (atP B j)) with
      | true => some (.ret, omG own n xs p q a b A B)
      | false => some (.normal, omH own n xs p q a b A B (W ((j : Int) + 1)))))
    | false => some (.exit 0, omG own n xs p q a b A B)) := by kernel_rfl
/-! Least, Same -/
def Cml (P : Program) : Cx := (((Caw9 P).makes 13 [true, false]).looks 32 [true]).lend 33
theorem okml : CxOk (Cml Try.prog) := Cx.lend_ok (Cx.looks_ok (Cx.makes_ok okaw9 _ _) _ _) _
def omK (own : Bool) (n : Nat) (xs : List O3) (p : P3) (a : Nat) (A : List P3) (e f h : Int) (x y : P3) (at' : Int) (is : Bool) : St := stOf 172 [(0, .slice (some ⟨0, 0, some 0⟩) n 12), (4, .pointer (some ⟨1, 0, none⟩)), (6, .bool false), (7, .slice (some ⟨2, 0, some 0⟩) a 4), (8, vI e), (11, vI f), (13, .pointer (some ⟨3, 0, none⟩)), (14, vI at'), (15, .pointer (some ⟨4, 0, none⟩)), (17, .bool is), (18, vI h)] [.rows own true 12 n (opRow xs), .cells true 0 p.cells, .rows true true 4 n (ptRow A), .cells true 0 x.cells, .cells true 0 y.cells]
theorem omP9 (own : Bool) (n : Nat) (xs : List O3) (p q : P3) (a b : Nat) (A B : List P3) : segR ((Cml Try.prog).into 8 1) 80 3 (seqDrop 9 (omB Try.prog)) [0, 4, 6, 7, 8, 11, 13, 14, 15, 17, 18] [.fix 0, .slot 4, .slot 7, .slot 13, .slot 15] (omG own n xs p q a b A B) =
    tw1 n xs (sa1 n xs (tw1 n xs (sa1 n xs (tw1 n xs (sa1 n xs (some (omK own n xs p a A (leastN (chkI (X2 n xs)) p.ckP) (leastN (chkI (X2 n xs)) q.ckP) (samE (X2 n xs) p q) (leP (X2 n xs) p) (leP (X2 n xs) q) (leI' (X2 n xs) p) (samV (X2 n xs) p q)))))))) := by kernel_rfl
def omL (own : Bool) (n : Nat) (xs : List O3) (p x : P3) (at' : Int) : St := stOf 172 [(0, .slice (some ⟨0, 0, some 0⟩) n 12), (4, .pointer (some ⟨1, 0, none⟩)), (6, .bool false), (13, .pointer (some ⟨2, 0, none⟩)), (14, vI at')] [.rows own true 12 n (opRow xs), .cells true 0 p.cells, .cells true 0 x.cells]
theorem omP12 (own : Bool) (n : Nat) (xs : List O3) (p : P3) (a : Nat) (A : List P3) (x y : P3) (at' : Int) : segR ((Caw9 Try.prog).into 8 1) 80 1 (seqDrop 12 (omB Try.prog)) [0, 4, 6, 13, 14] [.fix 0, .slot 4, .slot 13] (omK own n xs p a A 0 0 0 x y at' true) =
    gn (!(x.eqB y)) (gd (boundsI 0 a) (gn (!(x.eqB (atP A 0))) (gn (decide (at' < 0)) (gn (decide (at' ≥ (n : Int))) (some (omL own n xs p x at')))))) := by kernel_rfl
/-! The first map -/
theorem omFor2 : isFor 2 (stmt 13 (omB Try.prog)) = true := by kernel_rfl
def omJ (own : Bool) (n : Nat) (xs : List O3) (p x : P3) (at' : Int) (j : Int) : St := stOf 172 [(0, .slice (some ⟨0, 0, some 0⟩) n 12), (4, .pointer (some ⟨1, 0, none⟩)), (6, .bool false), (13, .pointer (some ⟨2, 0, none⟩)), (14, vI at'), (19, vI j)] [.rows own true 12 n (opRow xs), .cells true 0 p.cells, .cells true 0 x.cells]
theorem omHead2 (own : Bool) (n : Nat) (xs : List O3) (p x : P3) (at' : Int) : roundR ((Caw9 Try.prog).into 8 1) 60 (forHead (stmt 13 (omB Try.prog))) [0, 4, 6, 13, 14, 19] [0, 4, 6, 13, 14, 19] [.fix 0, .slot 4, .slot 13] [.fix 0, .slot 4, .slot 13] (omL own n xs p x at') = some (.normal, omJ own n xs p x at' 0) := by kernel_rfl
theorem omRnd2 (own : Bool) (n : Nat) (xs : List O3) (p x : P3) (at' j : Int) : roundR ((Caw9 Try.prog).into 8 1) 60 (forBody (stmt 13 (omB Try.prog))) [0, 4, 6, 13, 14, 19] [6] [.fix 0, .slot 4, .slot 13] [.fix 0] (omJ own n xs p x at' j) =
    (match decide (j ≤ at') with
    | true => gd (boundsI j n) (match (atO xs j).appE p != 0 with
      | true => some (.ret, omR own n xs false)
      | false => match ((atO xs j).appF p).eqB x != (j == at') with
        | true => some (.ret, omR own n xs false)
        | false => some (.normal, omJ own n xs p x at' (W (j + 1))))
    | false => some (.exit 2, omR own n xs false)) := by kernel_rfl
theorem omEnd (own : Bool) (n : Nat) (xs : List O3) : roundR ((Caw9 Try.prog).into 8 1) 60 (seqDrop 14 (omB Try.prog)) [6] [6] [.fix 0] [.fix 0] (omR own n xs false) = some (.ret, omR own n xs true) := by kernel_rfl
/-- A list of nothing. -/
theorem omZ0 (p : P3) (i : Int) : exT ((Cpz Try.prog).at 8) 80 Try.f8 [.slice none 0 0, p.v, vI i] [] [] = (match leastN 5 p.ckP != 0 with
    | true => some (.bool true, [])
    | false => none) := by kernel_rfl
theorem omZ1 (own : Bool) (p : P3) (i : Int) : exT ((Cpy Try.prog).at 8) 80 Try.f8 [.slice (some ⟨0, 0, some 0⟩) 0 12, p.v, vI i] [.rows own true 12 0 (opRow [])] [.fix 0] = (match leastN 5 p.ckP != 0 with
    | true => some (.bool true, [.rows own true 12 0 (opRow [])])
    | false => none) := by kernel_rfl
end Go.Proofs.Ytggdbakgiknogaa


namespace Go.Proofs.Ytggdbakgiknogaa
open Go Vx Go.RowKit
set_option maxRecDepth 100000 in
theorem omIn1 : InBody ((Caw9 Try.prog).into 8 1) (forHead (stmt 8 (omB Try.prog))) ∧ InBody ((Caw9 Try.prog).into 8 1) (forBody (stmt 8 (omB Try.prog))) := for_in (C := Caw9 Try.prog) (f := 8) (B := 1) (id := 0) (k := 8) (fn := Try.f8) (b := omB Try.prog) Try.func8 omB_eq omFor1
set_option maxRecDepth 100000 in
theorem omIn2 : InBody ((Caw9 Try.prog).into 8 1) (forHead (stmt 13 (omB Try.prog))) ∧ InBody ((Caw9 Try.prog).into 8 1) (forBody (stmt 13 (omB Try.prog))) := for_in (C := Caw9 Try.prog) (f := 8) (B := 1) (id := 2) (k := 13) (fn := Try.f8) (b := omB Try.prog) Try.func8 omB_eq omFor2
theorem omL1 (own : Bool) (n : Nat) (xs : List O3) (p q : P3) (a : Nat) (A : List P3) (hn : a ≤ 1000) : ∀ (k j : Nat), a - j ≤ k → j ≤ a → LoopSem Try.prog 1 (forBody (stmt 8 (omB Try.prog))) (omH own n xs p q a a A A (j : Int)) (.exit 0) (omG own n xs p q a a A A) := by
  intro k
  have out : ∀ j : Nat, j = a → LoopSem Try.prog 1 (forBody (stmt 8 (omB Try.prog))) (omH own n xs p q a a A A (j : Int)) (.exit 0) (omG own n xs p q a a A A) := by
    intro j hj
    subst hj
    have hr := omRnd own n xs p q j j A A j
    rw [show decide ((j : Int) < (j : Int)) = false by simp] at hr
    exact loop_leave (C := Caw9 Try.prog) okaw9 (f := 8) (B := 1) omIn1.2 hr (by simp)
  induction k with
  | zero => intro j h1 h2; exact out j (by omega)
  | succ k ih =>
    intro j h1 h2
    by_cases hj : j < a
    · have hr := omRnd own n xs p q a a A A j
      rw [show decide ((j : Int) < (a : Int)) = true by simpa using hj, bd_ok' hj, P3.eqB_iff'.2 rfl, W_succ (by omega)] at hr
      simp only [gd_true, Bool.not_true] at hr
      exact loop_next (C := Caw9 Try.prog) okaw9 (f := 8) (B := 1) omIn1.2 hr (StLike.refl _) (ih (j + 1) (by omega) (by omega))
    · exact out j (by omega)
theorem atO_nat {G : List O3} {i : Nat} (h : i < G.length) : atO G (i : Int) = G[i] := by unfold atO; rw [Int.toNat_natCast, List.getElem?_eq_getElem h]; rfl
theorem atP_imgs {X : List O3} {p : P3} {j : Nat} (hj : j < X.length) : atP (imgs X p) j = (X[j]).app p := by
  unfold atP imgs
  rw [List.getElem?_map, List.getElem?_eq_getElem hj]
  rfl
theorem omL2 (own : Bool) (xs : List O3) (p x : P3) (hX : ∀ o ∈ xs, o.ck = 0) (hp : p.form = true) (hl : xs.length ≤ 192) (t : Nat) (ht : t < xs.length) (h1 : ∀ j, j < t → atP (imgs xs p) j ≠ x) (h2 : atP (imgs xs p) t = x) : ∀ (k j : Nat), t + 1 - j ≤ k → j ≤ t + 1 → LoopSem Try.prog 1 (forBody (stmt 13 (omB Try.prog))) (omJ own xs.length xs p x (t : Int) (j : Int)) (.exit 2) (omR own xs.length xs false) := by
  intro k
  have out : ∀ j : Nat, j = t + 1 → LoopSem Try.prog 1 (forBody (stmt 13 (omB Try.prog))) (omJ own xs.length xs p x (t : Int) (j : Int)) (.exit 2) (omR own xs.length xs false) := by
    intro j hj
    have hr := omRnd2 own xs.length xs p x (t : Int) (j : Int)
    rw [show decide ((j : Int) ≤ (t : Int)) = false by simp; omega] at hr
    exact loop_leave (C := Caw9 Try.prog) okaw9 (f := 8) (B := 1) omIn2.2 hr (by simp)
  induction k with
  | zero => intro j h1 h2; exact out j (by omega)
  | succ k ih =>
    intro j k1 k2
    by_cases hj : j ≤ t
    · have hr := omRnd2 own xs.length xs p x (t : Int) (j : Int)
      have hjx : j < xs.length := by omega
      have ho := hX _ (List.getElem_mem hjx)
      obtain ⟨e1, e2⟩ := O3.appF_of ho hp
      rw [show decide ((j : Int) ≤ (t : Int)) = true by simpa using hj, bd_ok' hjx, atO_nat hjx, e1, e2, W_succ (by omega)] at hr
      have hq : ((xs[j].app p).eqB x != ((j : Int) == (t : Int))) = false := by
        rw [← atP_imgs (p := p) hjx]
        by_cases hjt : j = t
        · subst hjt
          rw [h2, P3.eqB_iff'.2 rfl]
          simp
        · have hne := h1 j (by omega)
          have hb : (atP (imgs xs p) j).eqB x = false := by
            cases hb : (atP (imgs xs p) j).eqB x with
            | false => rfl
            | true => exact absurd (P3.eqB_iff'.1 hb) hne
          rw [hb, show ((j : Int) == (t : Int)) = false by simp; omega]
          rfl
      rw [hq] at hr
      exact loop_next (C := Caw9 Try.prog) okaw9 (f := 8) (B := 1) omIn2.2 hr (StLike.refl _) (ih (j + 1) (by omega) (by omega))
    · exact out j (by omega)
theorem orbA_one {X : List O3} (hX : Grp X) {p q : P3} (hp : p.form = true) (h : q ∈ imgs X p) : orbA X q = orbA X p := by
  have h1 : cpct (sortPt' (imgs X q)) = cpct (sortPt' (imgs X p)) := orb_one hX hp h
  unfold orbA cpAll
  rw [h1, sort_len, sort_len]
theorem om_good (own : Bool) (xs : List O3) (p : P3) (i : Int) (h0 : xs ≠ []) (hn : xs.length ≤ 1500000) (hp : leastN (chkI xs) p.ckP = 0) : CodeSem Try.prog 1 (omB Try.prog) (enter Try.f8 [.slice (some ⟨0, 0, some 0⟩) xs.length 12, p.v, vI i] [.rows own true 12 xs.length (opRow xs)]) .ret (omR own xs.length xs true) := by
  obtain ⟨hc, hp2⟩ := leastN_zero.1 hp
  have hpf := ckP_zero hp2
  obtain ⟨_, hX, hl⟩ := chk_grp hc
  have hpos : 1 ≤ xs.length := List.length_pos_iff.2 h0
  have hix := idx_in i hpos (by omega : xs.length ≤ 1000)
  have hmem := atO_mem hix
  obtain ⟨a1, a2⟩ := O3.appF_of (hX.ck _ hmem) hpf
  have hqin : omQ xs.length xs p i ∈ imgs xs p := mem_imgs.2 ⟨_, hmem, a2.symm⟩
  have hqf := imgs_form hpf hqin
  have hq : leastN (chkI xs) (omQ xs.length xs p i).ckP = 0 := leastN_zero.2 ⟨hc, by unfold P3.ckP; rw [hqf]; rfl⟩
  have ho := orb_one hX hpf hqin
  have r1 := omP1 own xs.length xs p i
  have hk0 : ((xs.length : Int) == 0) = false := by simp; exact h0
  rw [tw1_ok h0 hn, of1_ok hp, hk0, gn_false, gn_false, hix, gd_true, tw1_ok h0 hn, of1_ok hq, a1, X2_eq, ho, orbA_one hX hpf hqin, gn_selfI, gn_selfI] at r1
  generalize omQ xs.length xs p i = q at *
  refine seg_rule (C := Cmg Try.prog) okmg (f := 8) (B := 1) (k := 8) (Or.inl ⟨Try.f8, omB Try.prog, Try.func8, omB_eq, fun _ hx => hx⟩) r1 ?_
  have lp := orbL_len xs p
  refine stmt_rule omHas.2.1 (for_rule omFor1 (end_rule (C := Caw9 Try.prog) okaw9 (f := 8) (B := 1) omIn1.1 (omHead own xs.length xs p q (orbL xs p).length (orbL xs p).length (orbA xs p) (orbA xs p))) (omL1 own xs.length xs p q (orbL xs p).length (orbA xs p) (by omega) (orbL xs p).length 0 (by omega) (by omega))) ?_
  have r9 := omP9 own xs.length xs p q (orbL xs p).length (orbL xs p).length (orbA xs p) (orbA xs p)
  have hE : leastN (leastN (chkI xs) p.ckP) q.ckP = 0 := samE_ok hp hq
  have hm : p.m = q.m := (imgs_m hqin).symm
  have e0 : samE xs p q = 0 := by unfold samE; rw [hE]; simp [hm]
  have v0 : samV xs p q = true := by unfold samV; rw [hE, show (p.m == q.m) = true by simpa using hm]; exact cnB_iff.2 hqin
  obtain ⟨b1, b2, b3⟩ := min_orb h0 hpf
  obtain ⟨c1, _, _⟩ := min_orb h0 hqf
  rw [ho, b1] at c1
  have hlp : leP xs p = minL (imgs xs p) := by unfold leP; rw [hp]; rfl
  have hlq : leP xs q = minL (imgs xs p) := by unfold leP; rw [hq]; exact c1.symm
  have hli : leI' xs p = ixL (minL (imgs xs p)) (imgs xs p) 0 := by unfold leI'; rw [hp]; rfl
  obtain ⟨t, t1, t2, t3, t4⟩ := ixL_at (minL (imgs xs p)) (imgs xs p) 0 b2
  rw [Int.zero_add] at t1
  rw [imgs_len] at t2
  rw [tw1_ok h0 hn, sa1_ok, tw1_ok h0 hn, sa1_ok, tw1_ok h0 hn, sa1_ok, X2_eq, hp, hq, e0, v0, hlp, hlq, hli, t1] at r9
  refine seg_rule (C := Cml Try.prog) okml (f := 8) (B := 1) (k := 3) (bodyOf_in Try.func8 omB_eq) r9 ?_
  rw [seqDrop_drop]
  have r12 := omP12 own xs.length xs p (orbL xs p).length (orbA xs p) (minL (imgs xs p)) (minL (imgs xs p)) (t : Int)
  have hA0 : atP (orbA xs p) 0 = minL (imgs xs p) := by
    rw [← b1]
    unfold atP
    have := congrArg (fun l => l[0]?) (orbA_take xs p)
    simp only [List.getElem?_take] at this
    rw [if_pos b3] at this
    rw [this]
  rw [P3.eqB_iff'.2 rfl, hA0, P3.eqB_iff'.2 rfl, show boundsI 0 (orbL xs p).length = true by simp [boundsI]; omega, show decide ((t : Int) < 0) = false by simp, show decide ((t : Int) ≥ (xs.length : Int)) = false by simp; omega] at r12
  refine seg_rule (C := Caw9 Try.prog) okaw9 (f := 8) (B := 1) (k := 1) (bodyOf_in Try.func8 omB_eq) r12 ?_
  rw [seqDrop_drop]
  exact stmt_rule omHas.2.2 (for_rule omFor2 (end_rule (C := Caw9 Try.prog) okaw9 (f := 8) (B := 1) omIn2.1 (omHead2 own xs.length xs p (minL (imgs xs p)) (t : Int))) (omL2 own xs p (minL (imgs xs p)) hX.ck hpf hl t t2 t3 t4 (t + 1) 0 (by omega) (by omega))) (end_rule (C := Caw9 Try.prog) okaw9 (f := 8) (B := 1) (bodyOf_in Try.func8 omB_eq) (omEnd own xs.length xs))
theorem om_err (own : Bool) (xs : List O3) (p : P3) (i : Int) (h0 : xs ≠ []) (hn : xs.length ≤ 1500000) (hp : leastN (chkI xs) p.ckP ≠ 0) : CodeSem Try.prog 1 (omB Try.prog) (enter Try.f8 [.slice (some ⟨0, 0, some 0⟩) xs.length 12, p.v, vI i] [.rows own true 12 xs.length (opRow xs)]) .ret (omR own xs.length xs true) := by
  have r1 := omP1e own xs.length xs p i
  have hb : (leastN (chkI xs) p.ckP != 0) = true := by simpa using hp
  rw [tw1_ok h0 hn, lk_true, oTok, X2_eq, hb] at r1
  have r3 := omP3e own xs.length xs (leastN (chkI xs) p.ckP)
  rw [hb] at r3
  exact seg_rule (C := Cme Try.prog) okme (f := 8) (B := 1) (k := 3) (Or.inl ⟨Try.f8, omB Try.prog, Try.func8, omB_eq, fun _ hx => hx⟩) r1 (stmt_out omHas.1 (end_rule (C := Caw9 Try.prog) okaw9 (f := 8) (B := 1) (stmt_in Try.func8 omB_eq) r3) (by simp))
theorem om_sem (own : Bool) (xs : List O3) (p : P3) (i : Int) (hn : xs.length ≤ 1500000) : MemSem Try.prog 8 [.slice (some ⟨0, 0, some 0⟩) xs.length 12, p.v, vI i] [.rows own true 12 xs.length (opRow xs)] (.bool true) [.rows own true 12 xs.length (opRow xs)] := by
  by_cases h0 : xs = []
  · subst h0
    have hz := omZ1 own p i
    rw [show (leastN 5 p.ckP != 0) = true by simpa using five_ne p] at hz
    exact exT_ok okpy Try.func8 (by kernel_rfl) hz
  · refine body_mem (f := 8) Try.func8 omB_eq (by kernel_rfl) ?_ (omRet own xs.length xs)
    by_cases hp : leastN (chkI xs) p.ckP = 0
    · exact om_good own xs p i h0 hn hp
    · exact om_err own xs p i h0 hn hp
theorem orbitMoves_nil (W : World) (p : P3) (i : Int) : Calls Try.prog 8 #[.slice none 0 0, p.v, .int .i64 i] W fun e W' => e = .returned (.bool true) ∧ Below W.heap.size W W' := by
  have hz := omZ0 p i
  rw [show (leastN 5 p.ckP != 0) = true by simpa using five_ne p] at hz
  have h : PlainSem Try.prog 8 [.slice none 0 0, p.v, vI i] (.bool true) := (exT_ok okpz Try.func8 (by kernel_rfl) hz).plain (by intro x hx; simp only [List.mem_cons, List.not_mem_nil, or_false] at hx; rcases hx with rfl | rfl | rfl <;> rfl) rfl
  exact (h.2 W).mono fun _ _ hq => ⟨hq.1, hq.2.1⟩
theorem orbitMoves_walk {W : World} {a : Addr} {xs : List O3} {cap : Nat} (hn : xs.length ≤ 1048576) (ha : OpsAt W a xs) (hc : xs.length ≤ cap) (p : P3) (i : Int) : Calls Try.prog 8 #[.slice (some a) xs.length cap, p.v, .int .i64 i] W fun e W' => e = .returned (.bool true) ∧ Below W.heap.size W W' :=
  (om_sem false xs p i (by omega)).calls ha hc (more := [p.v, vI i]) (more' := [p.v, vI i]) ⟨(R_plain (r := _) (v := p.v) rfl).2 rfl, (R_plain (r := _) (v := vI i) rfl).2 rfl, trivial⟩
end Go.Proofs.Ytggdbakgiknogaa


namespace Go.Proofs.Ytggdbakgiknogaa.Vx
open Go
def inRow (l : List Int) : Nat → List Value := fun i => [.int .i64 ((l[i]?).getD 0)]
def decI : List Value → Int
  | [.int .i64 x] => x
  | _ => 0
def isI : List Value → Bool
  | [.int .i64 _] => true
  | _ => false
def okIns (n : Nat) (row : Nat → List Value) : Bool := (List.range n).all fun i => isI (row i)
def insOf (n : Nat) (row : Nat → List Value) : List Int := (List.range n).map fun i => decI (row i)
theorem okIns_row (xs : List Int) (n : Nat) : okIns n (inRow xs) = true := List.all_eq_true.2 fun _ _ => rfl
theorem insOf_length (n : Nat) (row : Nat → List Value) : (insOf n row).length = n := by simp [insOf]
theorem insOf_row {xs : List Int} {n : Nat} (h : xs.length = n) : insOf n (inRow xs) = xs := by
  subst h
  apply List.ext_getElem?
  intro i
  unfold insOf inRow
  rw [List.getElem?_map]
  by_cases hi : i < xs.length
  · rw [List.getElem?_range hi, List.getElem?_eq_getElem hi]
    simp [decI, List.getElem?_eq_getElem hi]
  · rw [List.getElem?_eq_none (by simp; omega), List.getElem?_eq_none (by omega)]; rfl
theorem ins_like {n : Nat} {row : Nat → List Value} (h : okIns n row = true) : rowsLike n row (inRow (insOf n row)) := by
  intro i hi
  have := List.all_eq_true.1 h i (List.mem_range.2 hi)
  unfold isI at this
  split at this
  · rename_i x hx
    unfold inRow insOf
    rw [List.getElem?_map, List.getElem?_range hi]
    simp only [Option.map_some, Option.getD_some, hx, decI]
  · cases this
theorem inRow_get {Y : List Int} {q : Nat} (h : q < Y.length) : inRow Y q = [.int .i64 Y[q]] := by unfold inRow; rw [List.getElem?_eq_getElem h]; rfl
theorem in_snoc (xs : List Int) (x : Int) {n : Nat} (hn : xs.length = n) : rowsLike (n + 1) (catR n (inRow xs) (chop 1 0 [.int .i64 x])) (inRow (xs ++ [x])) := by
  subst hn
  intro i hi
  unfold catR
  by_cases h : i < xs.length
  · rw [show Nat.blt i xs.length = true by simpa [Nat.blt_eq] using h]
    unfold inRow
    rw [List.getElem?_append_left h]
  · have : i = xs.length := by omega
    subst this
    rw [blt_ff (Nat.lt_irrefl _)]
    simp only [Nat.sub_self]
    unfold inRow
    rw [List.getElem?_append_right (Nat.le_refl _)]
    simp only [Nat.sub_self, List.getElem?_cons_zero, Option.getD_some]
    rfl
theorem in_one (x : Int) : rowsLike 1 (chop 1 0 [.int .i64 x]) (inRow [x]) := by
  intro i hi
  have : i = 0 := by omega
  subst this
  rfl
/-- A place set. -/
def stI (Y : List Int) (x i : Int) : Nat → List Value := fun k => match Nat.beq k i.toNat with
  | true => setMany (inRow Y i.toNat) 0 [.int .i64 x]
  | false => inRow Y k
theorem stI_like (Y : List Int) (x : Int) {i : Nat} (hi : i < Y.length) (l : Nat) (hl : l = Y.length) : rowsLike l (stI Y x (i : Int)) (inRow (Y.set i x)) := fun q hq => by
  unfold stI
  rw [Int.toNat_natCast, inRow_get hi, inRow_get (by simp; omega : q < (Y.set i x).length)]
  cases hb : Nat.beq q i with
  | true =>
    have := Nat.eq_of_beq_eq_true hb
    subst this
    simp [setMany]
  | false =>
    have hne : i ≠ q := fun e => by subst e; simp at hb
    simp [List.getElem_set_ne hne, inRow_get (by omega : q < Y.length)]
end Go.Proofs.Ytggdbakgiknogaa.Vx
