/-
  facetref05.Place, Maps: their loops. Nothing here is trusted.
-/
import Derived.Test.YtcefeamjnnkahaaGo

namespace Go.Proofs.Ytcefeamjnnkahaa
open Go Vx
theorem isO_spec {l : List Value} (h : isO l = true) : l = (decO l).cells := by
  unfold isO at h
  unfold decO
  split at h
  · rename_i o ho; exact opCells_spec ho
  · cases h
theorem like_dec {own : Bool} {e : Nat} {l : List Value} (h : isO l = true) : Like (.cells own e l) (.cells own e (decO l).cells) := by
  rw [← isO_spec h]; exact .refl _
/-- The place of a map in a list, from a place on. -/
def plcL : List O3 → O3 → Int → Option Int
  | [], _, _ => none
  | x :: l, o, i => match x.eqB o with
    | true => some i
    | false => plcL l o (i + 1)

def plX (P : Program) : Code := (loopsOf P 38 2).headD .skip
theorem plX_eq : loopsOf Try.prog 38 2 = [plX Try.prog] := by kernel_rfl
def plH (own : Bool) (n : Nat) (xs : List O3) (o : O3) (i : Int) : St := stOf 19 [(3, .pointer (some ⟨1, 0, none⟩)), (4, vI 0), (7, .slice (some ⟨0, 0, some 0⟩) n 12), (8, vI n), (9, vI i)] [.rows own true 12 n (opRow xs), .cells true 0 o.cells]
theorem plR (own : Bool) (n : Nat) (xs : List O3) (o : O3) (i : Int) : roundR ((CCh Try.prog).into 38 1) 40 (plX Try.prog) [3, 4, 7, 8, 9] [4] [.fix 0, .fix 1] [.fix 0] (plH own n xs o i) =
    (match decide (i < (n : Int)) with
    | true => match boundsI i n with
      | true => match (atO xs i).eqB o with
        | true => some (.ret, stOf 19 [(4, vI i)] [.rows own true 12 n (opRow xs)])
        | false => some (.normal, plH own n xs o (W (i + 1)))
      | false => none
    | false => some (.exit 0, stOf 19 [(4, vI 0)] [.rows own true 12 n (opRow xs)])) := by kernel_rfl
structure plG where
  (own : Bool) (n : Nat) (xs : List O3) (o : O3) (i : Int)
def plO (own : Bool) (n : Nat) (xs : List O3) (o : O3) (i : Int) : Exit × St :=
  match (plcL (xs.drop i.toNat) o i).isSome with
  | true => (.ret, stOf 19 [(4, vI ((plcL (xs.drop i.toNat) o i).getD 0))] [.rows own true 12 n (opRow xs)])
  | false => (.exit 0, stOf 19 [(4, vI 0)] [.rows own true 12 n (opRow xs)])
theorem plL (own : Bool) (n : Nat) (xs : List O3) (o : O3) (i : Int) (hg : 0 ≤ i ∧ (n : Int) ≤ 4611686018427387904 ∧ xs.length = n) : LoopSem Try.prog 1 (plX Try.prog) (plH own n xs o i) (plO own n xs o i).1 (plO own n xs o i).2 := by
  refine loop_rule (C := CCh Try.prog) okCh (f := 38) (B := 1) (loopsOf_in (k := 2) plX_eq) 40 [3, 4, 7, 8, 9] [4] [.fix 0, .fix 1] [.fix 0] (fun g : plG => plH g.own g.n g.xs g.o g.i) (fun g => (g.n - g.i).toNat) (fun g => 0 ≤ g.i ∧ (g.n : Int) ≤ 4611686018427387904 ∧ g.xs.length = g.n) (fun g => plO g.own g.n g.xs g.o g.i) ?_ ⟨own, n, xs, o, i⟩ hg
  clear hg
  rintro ⟨own, n, xs, o, i⟩ hg
  simp only at hg
  simp only [plR]
  obtain ⟨h0, h1, h2⟩ := hg
  by_cases hi : i < (n : Int)
  · have hd : decide (i < (n : Int)) = true := by simpa using hi
    have hb : boundsI i n = true := by simp [boundsI, h0, hi]
    have hdr := drop_at (xs := xs) h0 (by omega)
    rw [hd, hb]
    have hw : W (i + 1) = i + 1 := W_in (by omega)
    cases he : (atO xs i).eqB o with
    | true =>
      right
      unfold plO
      simp only [hdr, plcL, he, Option.isSome_some, Option.getD_some]
      exact ⟨trivial, by simp⟩
    | false =>
      left
      refine ⟨⟨own, n, xs, o, i + 1⟩, by rw [hw], ⟨by simp only; omega, h1, h2⟩, by simp only; omega, ?_⟩
      unfold plO
      simp only [hdr, plcL, he]
  · have hd : decide (i < (n : Int)) = false := by simpa using hi
    rw [hd]
    right
    have hn : xs.drop i.toNat = [] := List.drop_eq_nil_of_le (by omega)
    unfold plO
    simp only [hn, plcL, Option.isSome_none]
    exact ⟨trivial, by simp⟩
def plS (st : St) : Option (Ans (Exit × St)) :=
  match sized st 19 2, tAt st 3, tAt st 4, tAt st 7, tAt st 8, tAt st 9, st.mem with
  | true, some (.pointer (some ⟨1, 0, none⟩)), some (.int .i64 0), some (.slice (some ⟨0, 0, some 0⟩) n 12), some (.int .i64 ln), some (.int .i64 i), [.rows own true 12 n2 row, .cells true 0 co] => some (.br (Nat.beq n n2 && (okOps n row && (decide ((n : Int) = ln) && (decide (0 ≤ i) && (decide ((n : Int) ≤ 4611686018427387904) && (isO co)))))) (.br ((plcL ((opsOf n row).drop i.toNat) (decO co) i).isSome)
      (.out (.ret, stOf 19 [(4, vI ((plcL ((opsOf n row).drop i.toNat) (decO co) i).getD 0))] [.rows own true 12 n (opRow (opsOf n row))]))
      (.out (.exit 0, stOf 19 [(4, vI 0)] [.rows own true 12 n (opRow (opsOf n row))]))) .fail)
  | _, _, _, _, _, _, _ => none
theorem plK {st : St} {ans : Ans (Exit × St)} {e_ : Exit} {s_ : St} (h : plS st = some ans) (hr : ans.res = some (e_, s_)) : LoopSem Try.prog 1 (plX Try.prog) st e_ s_ := by
  unfold plS at h
  split at h
  · rename_i n ln i own n2 row co hb hs0 hs1 hs2 hs3 hs4 hm
    simp only [Option.some.injEq] at h
    subst h
    rcases Ans.br_some hr with ⟨hc, hr1⟩ | ⟨_, hr1⟩
    · clear hr
      simp only [Bool.and_eq_true] at hc
      obtain ⟨ht0, ht1, ht2, ht3, ht4, ht5⟩ := hc
      have ht0 := beq_len ht0
      subst ht0
      have ht2 : (n : Int) = ln := by simpa using ht2
      subst ht2
      have hinv : 0 ≤ i ∧ (n : Int) ≤ 4611686018427387904 ∧ (opsOf n row).length = n := by
        exact ⟨by simpa using ht3, by simpa using ht4, opsOf_length n row⟩
      have hk := stOf_keep hb [(3, .pointer (some ⟨1, 0, none⟩)), (4, vI 0), (7, .slice (some ⟨0, 0, some 0⟩) n 12), (8, vI n), (9, vI i)] (by
        intro x hx
        simp only [List.mem_cons, List.not_mem_nil, or_false] at hx
        rcases hx with rfl | rfl | rfl | rfl | rfl
        · exact hs0
        · exact hs1
        · exact hs2
        · exact hs3
        · exact hs4) hm
      have key := plL own n (opsOf n row) (decO co) i hinv
      unfold plH at key
      have key := LoopSem.like (m := [.rows own true 12 n row, .cells true 0 co]) key ⟨.rows (ops_like ht1), like_dec ht5, trivial⟩
      have key : LoopSem Try.prog 1 (plX Try.prog) (stOf 19 [(3, .pointer (some ⟨1, 0, none⟩)), (4, vI 0), (7, .slice (some ⟨0, 0, some 0⟩) n 12), (8, vI n), (9, vI i)] [.rows own true 12 n row, .cells true 0 co]) _ _ := key
      rw [← hk] at key
      have key := LoopSem.clean key
      unfold plO at key
      rcases Ans.br_some hr1 with ⟨hq, hr1⟩ | ⟨hq, hr1⟩
      · simp only [hq] at key
        simp only [Ans.res, Option.some.injEq, Prod.mk.injEq] at hr1
        obtain ⟨rfl, rfl⟩ := hr1
        exact key
      · simp only [hq] at key
        simp only [Ans.res, Option.some.injEq, Prod.mk.injEq] at hr1
        obtain ⟨rfl, rfl⟩ := hr1
        exact key
    · simp [Ans.res] at hr1
  · cases h

/-- The error of a list of maps. -/
def mapsL : List O3 → Int → Int
  | [], e => e
  | o :: l, e => match o.ck == 3 with
    | true => 3
    | false => mapsL l (match o.ck == 4 with
      | true => 4
      | false => e)
def mapsU {α : Type} (o : O3) (r n4 n : α) (d : Int) : α := match !(o.t.eqB (o.t.md 24)) with
  | true => r
  | false => match o.r.ok with
    | true => match d != 1 with
      | true => match d != -1 with
        | true => r
        | false => match !o.r.ok with
          | true => n4
          | false => n
      | false => match !o.r.ok with
        | true => n4
        | false => n
    | false => match !o.r.ok with
      | true => n4
      | false => n
def mapsT {α : Type} (o : O3) (r n4 n : α) : α := match o.r.ok with
  | true => mapsU o r n4 n (W o.r.det)
  | false => mapsU o r n4 n 0
theorem part_eqB (v : V3) : v.eqB (v.md 24) = v.part := by
  rw [Bool.eq_iff_iff, V3.eqB_iff, V3.part_iff]
  constructor
  · intro h
    have e1 : v.x = v.x % 24 := congrArg V3.x h
    have e2 : v.y = v.y % 24 := congrArg V3.y h
    have e3 : v.z = v.z % 24 := congrArg V3.z h
    omega
  · intro h
    apply V3.ext'
    unfold V3.md
    simp only
    omega
theorem mapsT_eq {α : Type} (o : O3) (r n4 n : α) : mapsT o r n4 n = match o.ck == 3 with
    | true => r
    | false => match o.ck == 4 with
      | true => n4
      | false => n := by
  unfold mapsT mapsU
  rw [part_eqB]
  unfold O3.ck M3.form
  cases hp : o.t.part with
  | false => cases o.r.ok <;> rfl
  | true =>
    cases hk : o.r.ok with
    | false => rfl
    | true =>
      rw [Wdet hk]
      by_cases h1 : o.r.det = 1
      · rw [h1]; rfl
      · by_cases h2 : o.r.det = -1
        · rw [h2]; rfl
        · have e1 : (o.r.det != 1) = true := by simpa using h1
          have e2 : (o.r.det != -1) = true := by simpa using h2
          have e3 : unitB o.r.det = false := by simp [unitB, h1, h2]
          rw [e1, e2, e3]; rfl
/-- Whether a map is at fault, and the error so far. -/
def mapsF : List O3 → Int → Bool × Int
  | [], e => (false, e)
  | o :: l, e => match o.ck == 3 with
    | true => (true, e)
    | false => mapsF l (match o.ck == 4 with
      | true => 4
      | false => e)
theorem mapsF_eq : ∀ (l : List O3) (e : Int), mapsL l e = match (mapsF l e).1 with
    | true => 3
    | false => (mapsF l e).2
  | [], e => rfl
  | o :: l, e => by
    simp only [mapsL, mapsF]
    cases o.ck == 3 with
    | true => rfl
    | false => exact mapsF_eq l _

def mpX (P : Program) : Code := (loopsOf P 34 3).headD .skip
theorem mpX_eq : loopsOf Try.prog 34 3 = [mpX Try.prog] := by kernel_rfl
def mpH (own : Bool) (n : Nat) (xs : List O3) (e : Int) (i : Int) : St := stOf 46 [(2, vI 0), (3, vI e), (7, .slice (some ⟨0, 0, some 0⟩) n 12), (8, vI n), (9, vI i)] [.rows own true 12 n (opRow xs)]
theorem mpR (own : Bool) (n : Nat) (xs : List O3) (e : Int) (i : Int) : roundR ((CCh Try.prog).into 34 1) 40 (mpX Try.prog) [2, 3, 7, 8, 9] [2, 3] [.fix 0] [.fix 0] (mpH own n xs e i) =
    (match decide (i < (n : Int)) with
    | true => match boundsI i n with
      | true => mapsT (atO xs i) (some (.ret, stOf 46 [(2, vI 3), (3, vI e)] [.rows own true 12 n (opRow xs)])) (some (.normal, mpH own n xs 4 (W (i + 1)))) (some (.normal, mpH own n xs e (W (i + 1))))
      | false => none
    | false => some (.exit 0, stOf 46 [(2, vI 0), (3, vI e)] [.rows own true 12 n (opRow xs)])) := by kernel_rfl
structure mpG where
  (own : Bool) (n : Nat) (xs : List O3) (e : Int) (i : Int)
def mpO (own : Bool) (n : Nat) (xs : List O3) (e : Int) (i : Int) : Exit × St :=
  match (mapsF (xs.drop i.toNat) e).1 with
  | true => (.ret, stOf 46 [(2, vI 3), (3, vI (mapsF (xs.drop i.toNat) e).2)] [.rows own true 12 n (opRow xs)])
  | false => (.exit 0, stOf 46 [(2, vI 0), (3, vI (mapsF (xs.drop i.toNat) e).2)] [.rows own true 12 n (opRow xs)])
theorem mpL (own : Bool) (n : Nat) (xs : List O3) (e : Int) (i : Int) (hg : 0 ≤ i ∧ (n : Int) ≤ 4611686018427387904 ∧ xs.length = n) : LoopSem Try.prog 1 (mpX Try.prog) (mpH own n xs e i) (mpO own n xs e i).1 (mpO own n xs e i).2 := by
  refine loop_rule (C := CCh Try.prog) okCh (f := 34) (B := 1) (loopsOf_in (k := 3) mpX_eq) 40 [2, 3, 7, 8, 9] [2, 3] [.fix 0] [.fix 0] (fun g : mpG => mpH g.own g.n g.xs g.e g.i) (fun g => (g.n - g.i).toNat) (fun g => 0 ≤ g.i ∧ (g.n : Int) ≤ 4611686018427387904 ∧ g.xs.length = g.n) (fun g => mpO g.own g.n g.xs g.e g.i) ?_ ⟨own, n, xs, e, i⟩ hg
  clear hg
  rintro ⟨own, n, xs, e, i⟩ hg
  simp only at hg
  simp only [mpR]
  obtain ⟨h0, h1, h2⟩ := hg
  by_cases hi : i < (n : Int)
  · have hd : decide (i < (n : Int)) = true := by simpa using hi
    have hb : boundsI i n = true := by simp [boundsI, h0, hi]
    have hdr := drop_at (xs := xs) h0 (by omega)
    have hw : W (i + 1) = i + 1 := W_in (by omega)
    rw [hd, hb, hw, mapsT_eq]
    cases h3 : (atO xs i).ck == 3 with
    | true =>
      right
      unfold mpO
      simp only [hdr, mapsF, h3]
      exact ⟨trivial, by simp⟩
    | false =>
      left
      cases h4 : (atO xs i).ck == 4 with
      | true =>
        refine ⟨⟨own, n, xs, 4, i + 1⟩, rfl, ⟨by simp only; omega, h1, h2⟩, by simp only; omega, ?_⟩
        unfold mpO
        simp only [hdr, mapsF, h3, h4]
      | false =>
        refine ⟨⟨own, n, xs, e, i + 1⟩, rfl, ⟨by simp only; omega, h1, h2⟩, by simp only; omega, ?_⟩
        unfold mpO
        simp only [hdr, mapsF, h3, h4]
  · have hd : decide (i < (n : Int)) = false := by simpa using hi
    rw [hd]
    right
    have hn : xs.drop i.toNat = [] := List.drop_eq_nil_of_le (by omega)
    unfold mpO
    simp only [hn, mapsF]
    exact ⟨trivial, by simp⟩
def mpS (st : St) : Option (Ans (Exit × St)) :=
  match sized st 46 1, tAt st 2, tAt st 3, tAt st 7, tAt st 8, tAt st 9, st.mem with
  | true, some (.int .i64 0), some (.int .i64 e), some (.slice (some ⟨0, 0, some 0⟩) n 12), some (.int .i64 ln), some (.int .i64 i), [.rows own true 12 n2 row] => some (.br (Nat.beq n n2 && (okOps n row && (decide ((n : Int) = ln) && (decide (0 ≤ i) && (decide ((n : Int) ≤ 4611686018427387904)))))) (.br ((mapsF ((opsOf n row).drop i.toNat) e).1)
      (.out (.ret, stOf 46 [(2, vI 3), (3, vI (mapsF ((opsOf n row).drop i.toNat) e).2)] [.rows own true 12 n (opRow (opsOf n row))]))
      (.out (.exit 0, stOf 46 [(2, vI 0), (3, vI (mapsF ((opsOf n row).drop i.toNat) e).2)] [.rows own true 12 n (opRow (opsOf n row))]))) .fail)
  | _, _, _, _, _, _, _ => none
theorem mpK {st : St} {ans : Ans (Exit × St)} {e_ : Exit} {s_ : St} (h : mpS st = some ans) (hr : ans.res = some (e_, s_)) : LoopSem Try.prog 1 (mpX Try.prog) st e_ s_ := by
  unfold mpS at h
  split at h
  · rename_i e n ln i own n2 row hb hs0 hs1 hs2 hs3 hs4 hm
    simp only [Option.some.injEq] at h
    subst h
    rcases Ans.br_some hr with ⟨hc, hr1⟩ | ⟨_, hr1⟩
    · clear hr
      simp only [Bool.and_eq_true] at hc
      obtain ⟨ht0, ht1, ht2, ht3, ht4⟩ := hc
      have ht0 := beq_len ht0
      subst ht0
      have ht2 : (n : Int) = ln := by simpa using ht2
      subst ht2
      have hinv : 0 ≤ i ∧ (n : Int) ≤ 4611686018427387904 ∧ (opsOf n row).length = n := by
        exact ⟨by simpa using ht3, by simpa using ht4, opsOf_length n row⟩
      have hk := stOf_keep hb [(2, vI 0), (3, vI e), (7, .slice (some ⟨0, 0, some 0⟩) n 12), (8, vI n), (9, vI i)] (by
        intro x hx
        simp only [List.mem_cons, List.not_mem_nil, or_false] at hx
        rcases hx with rfl | rfl | rfl | rfl | rfl
        · exact hs0
        · exact hs1
        · exact hs2
        · exact hs3
        · exact hs4) hm
      have key := mpL own n (opsOf n row) e i hinv
      unfold mpH at key
      have key := LoopSem.like (m := [.rows own true 12 n row]) key ⟨.rows (ops_like ht1), trivial⟩
      have key : LoopSem Try.prog 1 (mpX Try.prog) (stOf 46 [(2, vI 0), (3, vI e), (7, .slice (some ⟨0, 0, some 0⟩) n 12), (8, vI n), (9, vI i)] [.rows own true 12 n row]) _ _ := key
      rw [← hk] at key
      have key := LoopSem.clean key
      unfold mpO at key
      rcases Ans.br_some hr1 with ⟨hq, hr1⟩ | ⟨hq, hr1⟩
      · simp only [hq] at key
        simp only [Ans.res, Option.some.injEq, Prod.mk.injEq] at hr1
        obtain ⟨rfl, rfl⟩ := hr1
        exact key
      · simp only [hq] at key
        simp only [Ans.res, Option.some.injEq, Prod.mk.injEq] at hr1
        obtain ⟨rfl, rfl⟩ := hr1
        exact key
    · simp [Ans.res] at hr1
  · cases h
end Go.Proofs.Ytcefeamjnnkahaa


namespace Go.Proofs.Ytcefeamjnnkahaa
open Go Vx
def placeI (xs : List O3) (o : O3) : Int := (plcL xs o 0).getD (-1)
theorem plL_some : ∀ {xs : List O3} {o : O3} {i j : Int}, plcL xs o i = some j → i ≤ j ∧ o ∈ xs
  | [], o, i, j, h => by simp [plcL] at h
  | x :: l, o, i, j, h => by
    simp only [plcL] at h
    cases he : x.eqB o with
    | true => rw [he] at h; simp only [Option.some.injEq] at h; subst h; exact ⟨Int.le_refl _, by rw [O3.eqB_iff.1 he]; simp⟩
    | false =>
      rw [he] at h
      obtain ⟨h1, h2⟩ := plL_some (xs := l) h
      exact ⟨by omega, by simp [h2]⟩
theorem plL_none : ∀ {xs : List O3} {o : O3} {i : Int}, plcL xs o i = none → o ∉ xs
  | [], o, i, h => by simp
  | x :: l, o, i, h => by
    simp only [plcL] at h
    cases he : x.eqB o with
    | true => rw [he] at h; cases h
    | false =>
      rw [he] at h
      have := plL_none (xs := l) h
      rw [List.mem_cons]
      rintro (e | e)
      · exact O3.eqB_false.1 he e.symm
      · exact this e
theorem placeI_mem {xs : List O3} {o : O3} : decide (placeI xs o ≥ 0) = decide (o ∈ xs) := by
  unfold placeI
  cases h : plcL xs o 0 with
  | none =>
    have := plL_none h
    simp [this]
  | some j =>
    obtain ⟨h1, h2⟩ := plL_some h
    simp only [Option.getD_some]
    rw [decide_eq_true (by omega : j ≥ 0), decide_eq_true h2]
/-- The maps of a list behind one another: each behind a map, those that are new appended; in order beside it. -/
def rIn (f : O3) : List O3 → List O3 → List O3 → Option (List O3 × List O3)
  | [], fs, ss => some (fs, ss)
  | o :: l, fs, ss => match decide (placeI fs (f.mul5 o) ≥ 0) with
    | true => rIn f l fs ss
    | false => match !(f.mul5 o).r.ok with
      | true => none
      | false => match ((fs.length : Int) == 192) with
        | true => none
        | false => rIn f l (fs ++ [f.mul5 o]) (insO (f.mul5 o) ss)
def rOut (ls : List O3) : Nat → Int → List O3 → List O3 → Option (List O3 × List O3)
  | 0, _, fs, ss => some (fs, ss)
  | N + 1, i, fs, ss => match decide (i < (fs.length : Int)) with
    | true => match rIn (atO fs i) ls fs ss with
      | some r => rOut ls N (i + 1) r.1 r.2
      | none => none
    | false => some (fs, ss)
structure RWay (ls fs ss : List O3) : Prop where
  nd : fs.Nodup
  ck : ∀ g ∈ fs, g.ck = 0
  gen : ∀ g ∈ fs, Gen ls g
  len : fs.length ≤ 192
  one : O3.one ∈ fs
  perm : ss.Perm fs
  sorted : SortedO ss
theorem rIn_spec {ls : List O3} (hls : ∀ o ∈ ls, o.ck = 0) {f : O3} : ∀ (l fs ss : List O3), (∀ o ∈ l, o ∈ ls) → RWay ls fs ss → f ∈ fs →
    (∃ r ex, rIn f l fs ss = some r ∧ RWay ls r.1 r.2 ∧ r.1 = fs ++ ex ∧ ∀ o ∈ l, f.mul o ∈ r.1) ∨ (rIn f l fs ss = none ∧ Bad ls)
  | [], fs, ss, _, hW, _ => Or.inl ⟨(fs, ss), [], rfl, hW, by simp, by simp⟩
  | o :: l, fs, ss, hl, hW, hf => by
    have hi := all_inv hls
    have hfk := hW.ck f hf
    have hok := hls o (hl o (by simp))
    have hg : Gen ls (f.mul o) := (hW.gen f hf).mul hi (Gen.of hi (hl o (by simp)))
    simp only [rIn]
    rw [O3.mul5_eq hfk hok, placeI_mem]
    by_cases hm : f.mul o ∈ fs
    · rw [decide_eq_true hm]
      simp only
      rcases rIn_spec hls l fs ss (fun x hx => hl x (by simp [hx])) hW hf with ⟨r, ex, h1, h2, h3, h4⟩ | h
      · left
        refine ⟨r, ex, h1, h2, h3, fun x hx => ?_⟩
        rcases List.mem_cons.1 hx with rfl | hx
        · rw [h3]; exact List.mem_append_left _ hm
        · exact h4 x hx
      · right; exact h
    · rw [decide_eq_false hm]
      simp only
      cases hk : (f.mul o).r.ok with
      | false => right; exact ⟨rfl, Or.inl ⟨_, hg, hk⟩⟩
      | true =>
        simp only [Bool.not_true]
        have hnd : (fs ++ [f.mul o]).Nodup := List.nodup_append.2 ⟨hW.nd, by simp, fun a ha b hb e => by
          rw [List.mem_singleton] at hb; subst hb; subst e; exact hm ha⟩
        have hgen : ∀ g ∈ fs ++ [f.mul o], Gen ls g := fun g hg' => by
          rcases List.mem_append.1 hg' with h | h
          · exact hW.gen g h
          · rw [List.mem_singleton] at h; subst h; exact hg
        have hlen := hW.len
        by_cases hl2 : fs.length = 192
        · right
          rw [show ((fs.length : Int) == 192) = true by rw [beq_iff_eq]; omega]
          exact ⟨rfl, Or.inr ⟨_, hnd, by simp; omega, hgen⟩⟩
        · rw [show ((fs.length : Int) == 192) = false by simp; omega]
          simp only
          have hck : (f.mul o).ck = 0 := O3.ck_of ((O3.inv_ck hfk).mul (O3.inv_ck hok)) hk
          have hW2 : RWay ls (fs ++ [f.mul o]) (insO (f.mul o) ss) := by
            refine ⟨hnd, fun g hg' => ?_, hgen, by simp; omega, List.mem_append_left _ hW.one, ?_, insO_sorted _ _ hW.sorted⟩
            · rcases List.mem_append.1 hg' with h | h
              · exact hW.ck g h
              · rw [List.mem_singleton] at h; subst h; exact hck
            · refine (insO_perm _ _).trans ((hW.perm.cons _).trans ?_)
              exact (List.perm_append_comm (l₁ := [f.mul o]) (l₂ := fs))
          rcases rIn_spec hls l _ _ (fun x hx => hl x (by simp [hx])) hW2 (List.mem_append_left _ hf) with ⟨r, ex, h1, h2, h3, h4⟩ | h
          · left
            refine ⟨r, [f.mul o] ++ ex, h1, h2, by rw [h3, List.append_assoc], fun x hx => ?_⟩
            rcases List.mem_cons.1 hx with rfl | hx
            · rw [h3]; exact List.mem_append_left _ (List.mem_append_right _ (by simp))
            · exact h4 x hx
          · right; exact h
theorem rOut_spec {ls : List O3} (hls : ∀ o ∈ ls, o.ck = 0) : ∀ (N : Nat) (j : Nat) (fs ss : List O3), RWay ls fs ss → j ≤ fs.length → N + j = 193 → (∀ (i : Nat) (hi : i < fs.length), i < j → ∀ o ∈ ls, fs[i].mul o ∈ fs) →
    (∃ r, rOut ls N (j : Int) fs ss = some r ∧ IsGrp ls r.1 ∧ r.2 = sortO r.1) ∨ (rOut ls N (j : Int) fs ss = none ∧ Bad ls)
  | 0, j, fs, ss, hW, hj, hN, hd => by
    exfalso
    have := hW.len
    omega
  | N + 1, j, fs, ss, hW, hj, hN, hd => by
    simp only [rOut]
    by_cases hlt : j < fs.length
    · rw [show decide ((j : Int) < (fs.length : Int)) = true by simp; omega]
      simp only
      have hat : atO fs (j : Int) = fs[j] := by unfold atO; rw [Int.toNat_natCast, List.getElem?_eq_getElem hlt]; rfl
      rw [hat]
      rcases rIn_spec hls ls fs ss (fun _ h => h) hW (List.getElem_mem hlt) with ⟨r, ex, h1, h2, h3, h4⟩ | ⟨h1, h2⟩
      · rw [h1]
        simp only
        rw [show (j : Int) + 1 = ((j + 1 : Nat) : Int) by omega]
        have hlen : fs.length ≤ r.1.length := by rw [h3]; simp
        refine rOut_spec hls N (j + 1) r.1 r.2 h2 (by omega) (by omega) fun i hi hij o ho => ?_
        by_cases hi2 : i < fs.length
        · have e : r.1[i] = fs[i] := by simp only [h3]; rw [List.getElem_append_left hi2]
          rw [e]
          by_cases hij2 : i < j
          · have := hd i hi2 hij2 o ho
            rw [h3]; exact List.mem_append_left _ this
          · obtain rfl : i = j := by omega
            exact h4 o ho
        · omega
      · right
        rw [h1]
        exact ⟨rfl, h2⟩
    · obtain rfl : j = fs.length := by omega
      rw [show decide (((fs.length : Nat) : Int) < (fs.length : Int)) = false by simp]
      left
      refine ⟨(fs, ss), rfl, ⟨hW.nd, hW.len, fun g => ⟨fun h => hW.gen g h, fun h => ?_⟩, hW.ck⟩, ?_⟩
      · induction h with
        | one => exact hW.one
        | step _ hx ih =>
          obtain ⟨i, hi, e⟩ := List.mem_iff_getElem.1 ih
          rw [← e]
          exact hd i hi hi _ hx
      · exact sorted_one hW.sorted (sortO_sorted _) (hW.perm.trans (sortO_perm _).symm)
/-- What the document's Close comes to. -/
def rcR (ls : List O3) : Option (List O3 × List O3) := rOut ls 193 0 [O3.one] [O3.one]
theorem rcR_spec {ls : List O3} (hls : ∀ o ∈ ls, o.ck = 0) : (∃ r, rcR ls = some r ∧ IsGrp ls r.1 ∧ r.2 = sortO r.1) ∨ (rcR ls = none ∧ Bad ls) := by
  refine rOut_spec hls 193 0 [O3.one] [O3.one] ⟨by simp, by simp [O3.one_ck], fun g hg => ?_, by simp, by simp, List.Perm.refl _, by simp [SortedO]⟩ (by simp) rfl (by omega)
  rw [List.mem_singleton] at hg; subst hg; exact Gen.one
/-- Both are one. -/
theorem rc_cls {ls : List O3} (h0 : ckMaps ls = 0) : (rcR ls).isSome = clsOk ls ∧ (clsOk ls = true → ((rcR ls).getD ([], [])).2 = clsG ls) := by
  obtain ⟨_, hls⟩ := ckMaps_zero h0
  have e : clsOk ls = (clR ls).isSome := by unfold clsOk; rw [h0]; rfl
  rw [e]
  rcases rcR_spec hls with ⟨r, r1, r2, r3⟩ | ⟨r1, r2⟩
  · rcases clR_spec hls with ⟨c, c1, c2⟩ | ⟨_, c2⟩
    · rw [r1, c1]
      refine ⟨rfl, fun _ => ?_⟩
      simp only [Option.getD_some]
      unfold clsG
      have e : clG0 ls [O3.one] es1 = c := by unfold clG0; rw [show clL ls [O3.one] [] es1 = some c from c1]; rfl
      rw [r3, e]
      exact sorted_one (sortO_sorted _) (sortO_sorted _) ((sortO_perm _).trans ((r2.perm c2).trans (sortO_perm _).symm))
    · exact absurd c2 r2.not_bad
  · rcases clR_spec hls with ⟨c, c1, c2⟩ | ⟨c1, _⟩
    · exact absurd r2 c2.not_bad
    · rw [r1, c1]
      exact ⟨rfl, fun h => by cases h⟩
/-- The errors of a list are one. -/
theorem leastL_three : ∀ (l : List O3), leastL l 3 = 3
  | [] => rfl
  | o :: l => by
    simp only [leastL]
    have : leastN 3 o.ck = 3 := by rcases O3.ck_cases o with h | h | h <;> rw [h] <;> rfl
    rw [this]; exact leastL_three l
theorem mapsL_eq : ∀ (l : List O3) (e : Int), (e = 0 ∨ e = 4) → mapsL l e = leastL l e
  | [], e, _ => rfl
  | o :: l, e, he => by
    simp only [mapsL, leastL]
    rcases O3.ck_cases o with h | h | h
    · rw [h]
      have : leastN e 0 = e := by rcases he with rfl | rfl <;> rfl
      rw [this]; exact mapsL_eq l e he
    · rw [h]
      have : leastN e 3 = 3 := by rcases he with rfl | rfl <;> rfl
      rw [this, leastL_three]; rfl
    · rw [h]
      have : leastN e 4 = 4 := by rcases he with rfl | rfl <;> rfl
      rw [this]; exact mapsL_eq l 4 (Or.inr rfl)
end Go.Proofs.Ytcefeamjnnkahaa


namespace Go.Proofs.Ytcefeamjnnkahaa
open Go Vx
def Cpl (P : Program) : Cx := ((CCh P).addLB 38 2 1 plS).addLB 34 3 1 mpS
theorem okpl : CxOk (Cpl Try.prog) := Cx.addLB_ok (Cx.addLB_ok okCh plX_eq fun _ _ _ _ h hr => plK h hr) mpX_eq fun _ _ _ _ h hr => mpK h hr
def lT (n : Nat) (row : Nat → List Value) (ln : Int) : Bool := Nat.beq n n && (okOps n row && (decide ((n : Int) = ln) && (decide ((0 : Int) ≤ 0) && decide ((n : Int) ≤ 4611686018427387904))))
def lT2 (n : Nat) (row : Nat → List Value) (ln : Int) (co : List Value) : Bool := Nat.beq n n && (okOps n row && (decide ((n : Int) = ln) && (decide ((0 : Int) ≤ 0) && (decide ((n : Int) ≤ 4611686018427387904) && isO co))))
/-- facetref05.Place -/
theorem plcE0 (o : O3) : exT ((Cpl Try.prog).at 38) 60 Try.f38 [.slice none 0 0, o.v] [] [] = some (vI (-1), []) := by kernel_rfl
theorem plcE1 (own : Bool) (n : Nat) (xs : List O3) (o : O3) : exT ((Cpl Try.prog).at 38) 60 Try.f38 [.slice (some ⟨0, 0, some 0⟩) n 12, o.v] [.rows own true 12 n (opRow xs)] [.fix 0] =
    gd (lT2 n (opRow xs) n o.cells) (match (plcL ((opsOf n (opRow xs)).drop (0 : Int).toNat) (decO o.cells) 0).isSome with
      | true => some (vI ((plcL ((opsOf n (opRow xs)).drop (0 : Int).toNat) (decO o.cells) 0).getD 0), [.rows own true 12 n (opRow (opsOf n (opRow xs)))])
      | false => some (vI (-1), [.rows own true 12 n (opRow (opsOf n (opRow xs)))])) := by kernel_rfl
theorem plcE (own : Bool) (n : Nat) (xs : List O3) (o : O3) (hx : xs.length = n) (hn : n ≤ 4611686018427387904) : exT ((Cpl Try.prog).at 38) 60 Try.f38 [.slice (some ⟨0, 0, some 0⟩) n 12, o.v] [.rows own true 12 n (opRow xs)] [.fix 0] = some (vI (placeI xs o), [.rows own true 12 n (opRow xs)]) := by
  rw [plcE1, opsOf_row hx]
  have ht : lT2 n (opRow xs) n o.cells = true := by
    unfold lT2
    rw [Nat.beq_refl, okOps_opRow, isO_cells]
    simp; omega
  rw [ht, gd_true, decO_cells]
  simp only [Int.toNat_zero, List.drop_zero]
  unfold placeI
  cases plcL xs o 0 <;> rfl
def plcF : List Value → Mem → Option (Ans (Value × Mem))
  | [.slice none 0 0, .agg co], [] => match opCells co.toList with
    | some _ => some (.out (vI (-1), []))
    | none => none
  | [.slice (some ⟨0, 0, some 0⟩) n 12, .agg co], [.rows own true 12 n2 row] => match opCells co.toList with
    | some o => some (.br (Nat.beq n n2 && (okOps n row && decide (n ≤ 4611686018427387904))) (.out (vI (placeI (opsOf n row) o), [.rows own true 12 n (opRow (opsOf n row))])) .fail)
    | none => none
  | _, _ => none
def Cplc (P : Program) : Cx := (Cpl P).addF 38 plcF
theorem okplc : CxOk (Cplc Try.prog) := Cx.addF_ok okpl fun args m ans v m' h hr => by
  unfold plcF at h
  split at h
  · rename_i co
    split at h
    · rename_i o ho
      simp only [Option.some.injEq] at h
      subst h
      simp only [Ans.res, Option.some.injEq, Prod.mk.injEq] at hr
      obtain ⟨rfl, rfl⟩ := hr
      have e1 : co = o.cells.toArray := by rw [← opCells_spec ho]
      subst e1
      exact exT_ok okpl Try.func38 (by kernel_rfl) (plcE0 o)
    · cases h
  · rename_i n co own n2 row
    split at h
    · rename_i o ho
      simp only [Option.some.injEq] at h
      subst h
      rcases Ans.br_some hr with ⟨hc, hr1⟩ | ⟨_, hr1⟩
      · clear hr
        simp only [Bool.and_eq_true, decide_eq_true_eq] at hc
        obtain ⟨c1, c2, c3⟩ := hc
        have c1 := beq_len c1
        subst c1
        simp only [Ans.res, Option.some.injEq, Prod.mk.injEq] at hr1
        obtain ⟨rfl, rfl⟩ := hr1
        have e1 : co = o.cells.toArray := by rw [← opCells_spec ho]
        subst e1
        exact (exT_ok okpl Try.func38 (by kernel_rfl) (plcE own n (opsOf n row) o (opsOf_length n row) c3)).like ⟨.rows (ops_like c2), trivial⟩
      · simp [Ans.res] at hr1
    · cases h
  · cases h
/-- facetref05.Maps -/
theorem mapE0 : exT ((Cplc Try.prog).at 34) 60 Try.f34 [.slice none 0 0] [] [] = some (vI 0, []) := by kernel_rfl
theorem mapE1 (own : Bool) (n : Nat) (xs : List O3) : exT ((Cplc Try.prog).at 34) 60 Try.f34 [.slice (some ⟨0, 0, some 0⟩) n 12] [.rows own true 12 n (opRow xs)] [.fix 0] =
    gd (lT n (opRow xs) n) (match (mapsF ((opsOf n (opRow xs)).drop (0 : Int).toNat) 0).1 with
      | true => some (vI 3, [.rows own true 12 n (opRow (opsOf n (opRow xs)))])
      | false => some (vI (mapsF ((opsOf n (opRow xs)).drop (0 : Int).toNat) 0).2, [.rows own true 12 n (opRow (opsOf n (opRow xs)))])) := by kernel_rfl
theorem mapE (own : Bool) (n : Nat) (xs : List O3) (hx : xs.length = n) (hn : n ≤ 4611686018427387904) : exT ((Cplc Try.prog).at 34) 60 Try.f34 [.slice (some ⟨0, 0, some 0⟩) n 12] [.rows own true 12 n (opRow xs)] [.fix 0] = some (vI (leastL xs 0), [.rows own true 12 n (opRow xs)]) := by
  rw [mapE1, opsOf_row hx]
  have ht : lT n (opRow xs) n = true := by
    unfold lT
    rw [Nat.beq_refl, okOps_opRow]
    simp; omega
  rw [ht, gd_true, ← mapsL_eq xs 0 (Or.inl rfl), mapsF_eq]
  simp only [Int.toNat_zero, List.drop_zero]
  cases (mapsF xs 0).1 <;> rfl
def mapF : List Value → Mem → Option (Ans (Value × Mem))
  | [.slice none 0 0], [] => some (.out (vI 0, []))
  | [.slice (some ⟨0, 0, some 0⟩) n 12], [.rows own true 12 n2 row] => some (.br (Nat.beq n n2 && (okOps n row && decide (n ≤ 4611686018427387904))) (.out (vI (leastL (opsOf n row) 0), [.rows own true 12 n (opRow (opsOf n row))])) .fail)
  | _, _ => none
def Cmap (P : Program) : Cx := (Cplc P).addF 34 mapF
theorem okmap : CxOk (Cmap Try.prog) := Cx.addF_ok okplc fun args m ans v m' h hr => by
  unfold mapF at h
  split at h
  · simp only [Option.some.injEq] at h
    subst h
    simp only [Ans.res, Option.some.injEq, Prod.mk.injEq] at hr
    obtain ⟨rfl, rfl⟩ := hr
    exact exT_ok okplc Try.func34 (by kernel_rfl) mapE0
  · rename_i n own n2 row
    simp only [Option.some.injEq] at h
    subst h
    rcases Ans.br_some hr with ⟨hc, hr1⟩ | ⟨_, hr1⟩
    · clear hr
      simp only [Bool.and_eq_true, decide_eq_true_eq] at hc
      obtain ⟨c1, c2, c3⟩ := hc
      have c1 := beq_len c1
      subst c1
      simp only [Ans.res, Option.some.injEq, Prod.mk.injEq] at hr1
      obtain ⟨rfl, rfl⟩ := hr1
      exact (exT_ok okplc Try.func34 (by kernel_rfl) (mapE own n (opsOf n row) (opsOf_length n row) c3)).like ⟨.rows (ops_like c2), trivial⟩
    · simp [Ans.res] at hr1
  · cases h
/-- Where a map is put: behind those that are less. -/
def putL : List O3 → O3 → Int → Int
  | [], _, i => i
  | x :: l, o, i => match decide (lexI x.l o.l < 0) with
    | true => putL l o (i + 1)
    | false => i

def ptX (P : Program) : Code := (loopsOf P 56 2).headD .skip
theorem ptX_eq : loopsOf Try.prog 56 2 = [ptX Try.prog] := by kernel_rfl
def ptH (own : Bool) (n : Nat) (xs : List O3) (o : O3) (i : Int) : St := stOf 36 [(0, .slice (some ⟨0, 0, some 0⟩) n 12), (3, .pointer (some ⟨1, 0, none⟩)), (5, vI i)] [.rows own true 12 n (opRow xs), .cells true 0 o.cells]
theorem ptR (own : Bool) (n : Nat) (xs : List O3) (o : O3) (i : Int) : roundR ((Cmap Try.prog).into 56 1) 40 (ptX Try.prog) [0, 3, 5] [0, 3, 5] [.fix 0, .fix 1] [.fix 0, .fix 1] (ptH own n xs o i) =
    (match decide (i < (n : Int)) with
    | true => match boundsI i n with
      | true => match decide (lexI (atO xs i).l o.l < 0) with
        | true => some (.normal, ptH own n xs o (W (i + 1)))
        | false => some (.exit 0, stOf 36 [(0, .slice (some ⟨0, 0, some 0⟩) n 12), (3, .pointer (some ⟨1, 0, none⟩)), (5, vI i)] [.rows own true 12 n (opRow xs), .cells true 0 o.cells])
      | false => none
    | false => some (.exit 0, stOf 36 [(0, .slice (some ⟨0, 0, some 0⟩) n 12), (3, .pointer (some ⟨1, 0, none⟩)), (5, vI i)] [.rows own true 12 n (opRow xs), .cells true 0 o.cells])) := by kernel_rfl
structure ptG where
  (own : Bool) (n : Nat) (xs : List O3) (o : O3) (i : Int)
def ptO (own : Bool) (n : Nat) (xs : List O3) (o : O3) (i : Int) : Exit × St :=
  (.exit 0, stOf 36 [(0, .slice (some ⟨0, 0, some 0⟩) n 12), (3, .pointer (some ⟨1, 0, none⟩)), (5, vI (putL (xs.drop i.toNat) o i))] [.rows own true 12 n (opRow xs), .cells true 0 o.cells])
theorem ptL (own : Bool) (n : Nat) (xs : List O3) (o : O3) (i : Int) (hg : 0 ≤ i ∧ (n : Int) ≤ 4611686018427387904 ∧ xs.length = n) : LoopSem Try.prog 1 (ptX Try.prog) (ptH own n xs o i) (ptO own n xs o i).1 (ptO own n xs o i).2 := by
  refine loop_rule (C := Cmap Try.prog) okmap (f := 56) (B := 1) (loopsOf_in (k := 2) ptX_eq) 40 [0, 3, 5] [0, 3, 5] [.fix 0, .fix 1] [.fix 0, .fix 1] (fun g : ptG => ptH g.own g.n g.xs g.o g.i) (fun g => (g.n - g.i).toNat) (fun g => 0 ≤ g.i ∧ (g.n : Int) ≤ 4611686018427387904 ∧ g.xs.length = g.n) (fun g => ptO g.own g.n g.xs g.o g.i) ?_ ⟨own, n, xs, o, i⟩ hg
  clear hg
  rintro ⟨own, n, xs, o, i⟩ hg
  simp only at hg
  simp only [ptR]
  obtain ⟨h0, h1, h2⟩ := hg
  by_cases hi : i < (n : Int)
  · have hd : decide (i < (n : Int)) = true := by simpa using hi
    have hb : boundsI i n = true := by simp [boundsI, h0, hi]
    have hdr := drop_at (xs := xs) h0 (by omega)
    have hw : W (i + 1) = i + 1 := W_in (by omega)
    rw [hd, hb, hw]
    cases he : decide (lexI (atO xs i).l o.l < 0) with
    | true =>
      left
      refine ⟨⟨own, n, xs, o, i + 1⟩, rfl, ⟨by simp only; omega, h1, h2⟩, by simp only; omega, ?_⟩
      unfold ptO
      simp only [hdr, putL, he]
    | false =>
      right
      unfold ptO
      simp only [hdr, putL, he]
      exact ⟨trivial, by simp⟩
  · have hd : decide (i < (n : Int)) = false := by simpa using hi
    rw [hd]
    right
    have hn : xs.drop i.toNat = [] := List.drop_eq_nil_of_le (by omega)
    unfold ptO
    simp only [hn, putL]
    exact ⟨trivial, by simp⟩
def ptS (st : St) : Option (Ans (Exit × St)) :=
  match sized st 36 2, tAt st 0, tAt st 3, tAt st 5, st.mem with
  | true, some (.slice (some ⟨0, 0, some 0⟩) n 12), some (.pointer (some ⟨1, 0, none⟩)), some (.int .i64 i), [.rows own true 12 n2 row, .cells true 0 co] => some (.br (Nat.beq n n2 && (okOps n row && (decide (0 ≤ i) && (decide ((n : Int) ≤ 4611686018427387904) && (isO co))))) (.out (.exit 0, stOf 36 [(0, .slice (some ⟨0, 0, some 0⟩) n 12), (3, .pointer (some ⟨1, 0, none⟩)), (5, vI (putL ((opsOf n row).drop i.toNat) (decO co) i))] [.rows own true 12 n (opRow (opsOf n row)), .cells true 0 (decO co).cells])) .fail)
  | _, _, _, _, _ => none
theorem ptK {st : St} {ans : Ans (Exit × St)} {e_ : Exit} {s_ : St} (h : ptS st = some ans) (hr : ans.res = some (e_, s_)) : LoopSem Try.prog 1 (ptX Try.prog) st e_ s_ := by
  unfold ptS at h
  split at h
  · rename_i n i own n2 row co hb hs0 hs1 hs2 hm
    simp only [Option.some.injEq] at h
    subst h
    rcases Ans.br_some hr with ⟨hc, hr1⟩ | ⟨_, hr1⟩
    · clear hr
      simp only [Bool.and_eq_true] at hc
      obtain ⟨ht0, ht1, ht2, ht3, ht4⟩ := hc
      have ht0 := beq_len ht0
      subst ht0
      have hinv : 0 ≤ i ∧ (n : Int) ≤ 4611686018427387904 ∧ (opsOf n row).length = n := by
        exact ⟨by simpa using ht2, by simpa using ht3, opsOf_length n row⟩
      have hk := stOf_keep hb [(0, .slice (some ⟨0, 0, some 0⟩) n 12), (3, .pointer (some ⟨1, 0, none⟩)), (5, vI i)] (by
        intro x hx
        simp only [List.mem_cons, List.not_mem_nil, or_false] at hx
        rcases hx with rfl | rfl | rfl
        · exact hs0
        · exact hs1
        · exact hs2) hm
      have key := ptL own n (opsOf n row) (decO co) i hinv
      unfold ptH at key
      have key := LoopSem.like (m := [.rows own true 12 n row, .cells true 0 co]) key ⟨.rows (ops_like ht1), like_dec ht4, trivial⟩
      have key : LoopSem Try.prog 1 (ptX Try.prog) (stOf 36 [(0, .slice (some ⟨0, 0, some 0⟩) n 12), (3, .pointer (some ⟨1, 0, none⟩)), (5, vI i)] [.rows own true 12 n row, .cells true 0 co]) _ _ := key
      rw [← hk] at key
      have key := LoopSem.clean key
      unfold ptO at key
      simp only [Ans.res, Option.some.injEq, Prod.mk.injEq] at hr1
      obtain ⟨rfl, rfl⟩ := hr1
      exact key
    · simp [Ans.res] at hr1
  · cases h
end Go.Proofs.Ytcefeamjnnkahaa
