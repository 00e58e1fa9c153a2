/-
  facetlaw05.GroupParts: its loops where there is nothing to go through. Nothing here is trusted.
-/
import Derived.Test.YtcefeamjnnkahaaGx

namespace Go.Proofs.Ytcefeamjnnkahaa
open Go Vx

def gcX (P : Program) : Code := (loopsOf P 6 8).headD .skip
theorem gcX_eq : loopsOf Try.prog 6 8 = [gcX Try.prog] := by kernel_rfl
def gcH (own : Bool) (n : Nat) (xs : List O3) (ys : List O3) : St := stOf 85 [(0, .slice (some ⟨0, 0, some 0⟩) n 12), (2, .bool false), (35, vI 0), (36, vI 0)] [.rows own true 12 n (opRow xs), .rows true true 12 n (opRow ys), .no, .no]
theorem gcR (own : Bool) (n : Nat) (xs : List O3) (ys : List O3) : roundR ((Cpb Try.prog).into 6 1) 40 (gcX Try.prog) [0, 2, 35, 36] [0, 2] [.fix 0, .fix 1, .fix 2, .fix 3] [.fix 0] (gcH own n xs ys) =
    (some (.exit 0, stOf 85 [(0, .slice (some ⟨0, 0, some 0⟩) n 12), (2, .bool false)] [.rows own true 12 n (opRow xs)])) := by kernel_rfl
structure gcG where
  (own : Bool) (n : Nat) (xs : List O3) (ys : List O3)
def gcO (own : Bool) (n : Nat) (xs : List O3) (_ : List O3) : Exit × St :=
  (.exit 0, stOf 85 [(0, .slice (some ⟨0, 0, some 0⟩) n 12), (2, .bool false)] [.rows own true 12 n (opRow xs)])
theorem gcL (own : Bool) (n : Nat) (xs : List O3) (ys : List O3) (hg : xs.length = n) : LoopSem Try.prog 1 (gcX Try.prog) (gcH own n xs ys) (gcO own n xs ys).1 (gcO own n xs ys).2 := by
  refine loop_rule (C := Cpb Try.prog) okpb (f := 6) (B := 1) (loopsOf_in (k := 8) gcX_eq) 40 [0, 2, 35, 36] [0, 2] [.fix 0, .fix 1, .fix 2, .fix 3] [.fix 0] (fun g : gcG => gcH g.own g.n g.xs g.ys) (fun g => (0 : Nat)) (fun g => g.xs.length = g.n) (fun g => gcO g.own g.n g.xs g.ys) ?_ ⟨own, n, xs, ys⟩ hg
  clear hg
  rintro ⟨own, n, xs, ys⟩ hg
  simp only at hg
  simp only [gcR]
  right
  unfold gcO
  exact ⟨rfl, by simp⟩
def gcS (st : St) : Option (Ans (Exit × St)) :=
  match sized st 85 4, tAt st 0, tAt st 2, tAt st 35, tAt st 36, st.mem with
  | true, some (.slice (some ⟨0, 0, some 0⟩) n 12), some (.bool false), some (.int .i64 z1), some (.int .i64 z2), [.rows own true 12 n2 row, .rows true true 12 n3 row2, .no, .no] => some (.br (Nat.beq n n2 && (okOps n row && (decide ((0 : Int) = z1) && (decide ((0 : Int) = z2) && (Nat.beq n n3 && (okOps n row2)))))) (.out (.exit 0, stOf 85 [(0, .slice (some ⟨0, 0, some 0⟩) n 12), (2, .bool false)] [.rows own true 12 n (opRow (opsOf n row))])) .fail)
  | _, _, _, _, _, _ => none
theorem gcK {st : St} {ans : Ans (Exit × St)} {e_ : Exit} {s_ : St} (h : gcS st = some ans) (hr : ans.res = some (e_, s_)) : LoopSem Try.prog 1 (gcX Try.prog) st e_ s_ := by
  unfold gcS at h
  split at h
  · rename_i n z1 z2 own n2 row n3 row2 hb hs0 hs1 hs2 hs3 hm
    simp only [Option.some.injEq] at h
    subst h
    rcases Ans.br_some hr with ⟨hc, hr1⟩ | ⟨_, hr1⟩
    · clear hr
      simp only [Bool.and_eq_true] at hc
      obtain ⟨ht0, ht1, ht2, ht3, ht4, ht5⟩ := hc
      have ht0 := beq_len ht0
      have ht2 : (0 : Int) = z1 := by simpa using ht2
      have ht3 : (0 : Int) = z2 := by simpa using ht3
      have ht4 := beq_len ht4
      subst ht0 ht2 ht3 ht4
      have hinv : (opsOf n row).length = n := by
        exact opsOf_length n row
      have hk := stOf_keep hb [(0, .slice (some ⟨0, 0, some 0⟩) n 12), (2, .bool false), (35, vI 0), (36, vI 0)] (by
        intro x hx
        simp only [List.mem_cons, List.not_mem_nil, or_false] at hx
        rcases hx with rfl | rfl | rfl | rfl
        · exact hs0
        · exact hs1
        · exact hs2
        · exact hs3) hm
      have key := gcL own n (opsOf n row) (opsOf n row2) hinv
      unfold gcH at key
      have key := LoopSem.like (m := [.rows own true 12 n row, .rows true true 12 n row2, .no, .no]) key ⟨.rows (ops_like ht1), .rows (ops_like ht5), .refl _, .refl _, trivial⟩
      have key : LoopSem Try.prog 1 (gcX Try.prog) (stOf 85 [(0, .slice (some ⟨0, 0, some 0⟩) n 12), (2, .bool false), (35, vI 0), (36, vI 0)] [.rows own true 12 n row, .rows true true 12 n row2, .no, .no]) _ _ := key
      rw [← hk] at key
      have key := LoopSem.clean key
      unfold gcO at key
      simp only [Ans.res, Option.some.injEq, Prod.mk.injEq] at hr1
      obtain ⟨rfl, rfl⟩ := hr1
      exact key
    · simp [Ans.res] at hr1
  · cases h

def gd1X (P : Program) : Code := (loopsOf P 6 8).headD .skip
theorem gd1X_eq : loopsOf Try.prog 6 8 = [gd1X Try.prog] := by kernel_rfl
def gd1H (own : Bool) (n : Nat) (xs : List O3) : St := stOf 85 [(0, .slice (some ⟨0, 0, some 0⟩) n 12), (2, .bool false), (35, vI 0), (36, vI 0)] [.rows own true 12 n (opRow xs), .no, .no, .no]
theorem gd1R (own : Bool) (n : Nat) (xs : List O3) : roundR ((Cpb Try.prog).into 6 1) 40 (gd1X Try.prog) [0, 2, 35, 36] [0, 2] [.fix 0, .fix 1, .fix 2, .fix 3] [.fix 0] (gd1H own n xs) =
    (some (.exit 0, stOf 85 [(0, .slice (some ⟨0, 0, some 0⟩) n 12), (2, .bool false)] [.rows own true 12 n (opRow xs)])) := by kernel_rfl
structure gd1G where
  (own : Bool) (n : Nat) (xs : List O3)
def gd1O (own : Bool) (n : Nat) (xs : List O3) : Exit × St :=
  (.exit 0, stOf 85 [(0, .slice (some ⟨0, 0, some 0⟩) n 12), (2, .bool false)] [.rows own true 12 n (opRow xs)])
theorem gd1L (own : Bool) (n : Nat) (xs : List O3) (hg : xs.length = n) : LoopSem Try.prog 1 (gd1X Try.prog) (gd1H own n xs) (gd1O own n xs).1 (gd1O own n xs).2 := by
  refine loop_rule (C := Cpb Try.prog) okpb (f := 6) (B := 1) (loopsOf_in (k := 8) gd1X_eq) 40 [0, 2, 35, 36] [0, 2] [.fix 0, .fix 1, .fix 2, .fix 3] [.fix 0] (fun g : gd1G => gd1H g.own g.n g.xs) (fun g => (0 : Nat)) (fun g => g.xs.length = g.n) (fun g => gd1O g.own g.n g.xs) ?_ ⟨own, n, xs⟩ hg
  clear hg
  rintro ⟨own, n, xs⟩ hg
  simp only at hg
  simp only [gd1R]
  right
  unfold gd1O
  exact ⟨rfl, by simp⟩
def gd1S (st : St) : Option (Ans (Exit × St)) :=
  match sized st 85 4, tAt st 0, tAt st 2, tAt st 35, tAt st 36, st.mem with
  | true, some (.slice (some ⟨0, 0, some 0⟩) n 12), some (.bool false), some (.int .i64 z1), some (.int .i64 z2), [.rows own true 12 n2 row, .no, .no, .no] => some (.br (Nat.beq n n2 && (okOps n row && (decide ((0 : Int) = z1) && (decide ((0 : Int) = z2))))) (.out (.exit 0, stOf 85 [(0, .slice (some ⟨0, 0, some 0⟩) n 12), (2, .bool false)] [.rows own true 12 n (opRow (opsOf n row))])) .fail)
  | _, _, _, _, _, _ => none
theorem gd1K {st : St} {ans : Ans (Exit × St)} {e_ : Exit} {s_ : St} (h : gd1S st = some ans) (hr : ans.res = some (e_, s_)) : LoopSem Try.prog 1 (gd1X Try.prog) st e_ s_ := by
  unfold gd1S at h
  split at h
  · rename_i n z1 z2 own n2 row hb hs0 hs1 hs2 hs3 hm
    simp only [Option.some.injEq] at h
    subst h
    rcases Ans.br_some hr with ⟨hc, hr1⟩ | ⟨_, hr1⟩
    · clear hr
      simp only [Bool.and_eq_true] at hc
      obtain ⟨ht0, ht1, ht2, ht3⟩ := hc
      have ht0 := beq_len ht0
      have ht2 : (0 : Int) = z1 := by simpa using ht2
      have ht3 : (0 : Int) = z2 := by simpa using ht3
      subst ht0 ht2 ht3
      have hinv : (opsOf n row).length = n := by
        exact opsOf_length n row
      have hk := stOf_keep hb [(0, .slice (some ⟨0, 0, some 0⟩) n 12), (2, .bool false), (35, vI 0), (36, vI 0)] (by
        intro x hx
        simp only [List.mem_cons, List.not_mem_nil, or_false] at hx
        rcases hx with rfl | rfl | rfl | rfl
        · exact hs0
        · exact hs1
        · exact hs2
        · exact hs3) hm
      have key := gd1L own n (opsOf n row) hinv
      unfold gd1H at key
      have key := LoopSem.like (m := [.rows own true 12 n row, .no, .no, .no]) key ⟨.rows (ops_like ht1), .refl _, .refl _, .refl _, trivial⟩
      have key : LoopSem Try.prog 1 (gd1X Try.prog) (stOf 85 [(0, .slice (some ⟨0, 0, some 0⟩) n 12), (2, .bool false), (35, vI 0), (36, vI 0)] [.rows own true 12 n row, .no, .no, .no]) _ _ := key
      rw [← hk] at key
      have key := LoopSem.clean key
      unfold gd1O at key
      simp only [Ans.res, Option.some.injEq, Prod.mk.injEq] at hr1
      obtain ⟨rfl, rfl⟩ := hr1
      exact key
    · simp [Ans.res] at hr1
  · cases h

def geX (P : Program) : Code := (loopsOf P 6 18).headD .skip
theorem geX_eq : loopsOf Try.prog 6 18 = [geX Try.prog] := by kernel_rfl
def geH (own : Bool) (n : Nat) (xs : List O3) (ys : List O3) : St := stOf 85 [(0, .slice (some ⟨0, 0, some 0⟩) n 12), (2, .bool false), (71, vI 0), (72, vI 0)] [.rows own true 12 n (opRow xs), .rows true true 12 n (opRow ys), .no, .no]
theorem geR (own : Bool) (n : Nat) (xs : List O3) (ys : List O3) : roundR ((Cpb Try.prog).into 6 1) 40 (geX Try.prog) [0, 2, 71, 72] [0, 2] [.fix 0, .fix 1, .fix 2, .fix 3] [.fix 0] (geH own n xs ys) =
    (some (.exit 2, stOf 85 [(0, .slice (some ⟨0, 0, some 0⟩) n 12), (2, .bool false)] [.rows own true 12 n (opRow xs)])) := by kernel_rfl
structure geG where
  (own : Bool) (n : Nat) (xs : List O3) (ys : List O3)
def geO (own : Bool) (n : Nat) (xs : List O3) (_ : List O3) : Exit × St :=
  (.exit 2, stOf 85 [(0, .slice (some ⟨0, 0, some 0⟩) n 12), (2, .bool false)] [.rows own true 12 n (opRow xs)])
theorem geL (own : Bool) (n : Nat) (xs : List O3) (ys : List O3) (hg : xs.length = n) : LoopSem Try.prog 1 (geX Try.prog) (geH own n xs ys) (geO own n xs ys).1 (geO own n xs ys).2 := by
  refine loop_rule (C := Cpb Try.prog) okpb (f := 6) (B := 1) (loopsOf_in (k := 18) geX_eq) 40 [0, 2, 71, 72] [0, 2] [.fix 0, .fix 1, .fix 2, .fix 3] [.fix 0] (fun g : geG => geH g.own g.n g.xs g.ys) (fun g => (0 : Nat)) (fun g => g.xs.length = g.n) (fun g => geO g.own g.n g.xs g.ys) ?_ ⟨own, n, xs, ys⟩ hg
  clear hg
  rintro ⟨own, n, xs, ys⟩ hg
  simp only at hg
  simp only [geR]
  right
  unfold geO
  exact ⟨rfl, by simp⟩
def geS (st : St) : Option (Ans (Exit × St)) :=
  match sized st 85 4, tAt st 0, tAt st 2, tAt st 71, tAt st 72, st.mem with
  | true, some (.slice (some ⟨0, 0, some 0⟩) n 12), some (.bool false), some (.int .i64 z1), some (.int .i64 z2), [.rows own true 12 n2 row, .rows true true 12 n3 row2, .no, .no] => some (.br (Nat.beq n n2 && (okOps n row && (decide ((0 : Int) = z1) && (decide ((0 : Int) = z2) && (Nat.beq n n3 && (okOps n row2)))))) (.out (.exit 2, stOf 85 [(0, .slice (some ⟨0, 0, some 0⟩) n 12), (2, .bool false)] [.rows own true 12 n (opRow (opsOf n row))])) .fail)
  | _, _, _, _, _, _ => none
theorem geK {st : St} {ans : Ans (Exit × St)} {e_ : Exit} {s_ : St} (h : geS st = some ans) (hr : ans.res = some (e_, s_)) : LoopSem Try.prog 1 (geX Try.prog) st e_ s_ := by
  unfold geS at h
  split at h
  · rename_i n z1 z2 own n2 row n3 row2 hb hs0 hs1 hs2 hs3 hm
    simp only [Option.some.injEq] at h
    subst h
    rcases Ans.br_some hr with ⟨hc, hr1⟩ | ⟨_, hr1⟩
    · clear hr
      simp only [Bool.and_eq_true] at hc
      obtain ⟨ht0, ht1, ht2, ht3, ht4, ht5⟩ := hc
      have ht0 := beq_len ht0
      have ht2 : (0 : Int) = z1 := by simpa using ht2
      have ht3 : (0 : Int) = z2 := by simpa using ht3
      have ht4 := beq_len ht4
      subst ht0 ht2 ht3 ht4
      have hinv : (opsOf n row).length = n := by
        exact opsOf_length n row
      have hk := stOf_keep hb [(0, .slice (some ⟨0, 0, some 0⟩) n 12), (2, .bool false), (71, vI 0), (72, vI 0)] (by
        intro x hx
        simp only [List.mem_cons, List.not_mem_nil, or_false] at hx
        rcases hx with rfl | rfl | rfl | rfl
        · exact hs0
        · exact hs1
        · exact hs2
        · exact hs3) hm
      have key := geL own n (opsOf n row) (opsOf n row2) hinv
      unfold geH at key
      have key := LoopSem.like (m := [.rows own true 12 n row, .rows true true 12 n row2, .no, .no]) key ⟨.rows (ops_like ht1), .rows (ops_like ht5), .refl _, .refl _, trivial⟩
      have key : LoopSem Try.prog 1 (geX Try.prog) (stOf 85 [(0, .slice (some ⟨0, 0, some 0⟩) n 12), (2, .bool false), (71, vI 0), (72, vI 0)] [.rows own true 12 n row, .rows true true 12 n row2, .no, .no]) _ _ := key
      rw [← hk] at key
      have key := LoopSem.clean key
      unfold geO at key
      simp only [Ans.res, Option.some.injEq, Prod.mk.injEq] at hr1
      obtain ⟨rfl, rfl⟩ := hr1
      exact key
    · simp [Ans.res] at hr1
  · cases h

def gfX (P : Program) : Code := (loopsOf P 6 18).headD .skip
theorem gfX_eq : loopsOf Try.prog 6 18 = [gfX Try.prog] := by kernel_rfl
def gfH (own : Bool) (n : Nat) (xs : List O3) : St := stOf 85 [(0, .slice (some ⟨0, 0, some 0⟩) n 12), (2, .bool false), (71, vI 0), (72, vI 0)] [.rows own true 12 n (opRow xs), .no, .no, .no]
theorem gfR (own : Bool) (n : Nat) (xs : List O3) : roundR ((Cpb Try.prog).into 6 1) 40 (gfX Try.prog) [0, 2, 71, 72] [0, 2] [.fix 0, .fix 1, .fix 2, .fix 3] [.fix 0] (gfH own n xs) =
    (some (.exit 2, stOf 85 [(0, .slice (some ⟨0, 0, some 0⟩) n 12), (2, .bool false)] [.rows own true 12 n (opRow xs)])) := by kernel_rfl
structure gfG where
  (own : Bool) (n : Nat) (xs : List O3)
def gfO (own : Bool) (n : Nat) (xs : List O3) : Exit × St :=
  (.exit 2, stOf 85 [(0, .slice (some ⟨0, 0, some 0⟩) n 12), (2, .bool false)] [.rows own true 12 n (opRow xs)])
theorem gfL (own : Bool) (n : Nat) (xs : List O3) (hg : xs.length = n) : LoopSem Try.prog 1 (gfX Try.prog) (gfH own n xs) (gfO own n xs).1 (gfO own n xs).2 := by
  refine loop_rule (C := Cpb Try.prog) okpb (f := 6) (B := 1) (loopsOf_in (k := 18) gfX_eq) 40 [0, 2, 71, 72] [0, 2] [.fix 0, .fix 1, .fix 2, .fix 3] [.fix 0] (fun g : gfG => gfH g.own g.n g.xs) (fun g => (0 : Nat)) (fun g => g.xs.length = g.n) (fun g => gfO g.own g.n g.xs) ?_ ⟨own, n, xs⟩ hg
  clear hg
  rintro ⟨own, n, xs⟩ hg
  simp only at hg
  simp only [gfR]
  right
  unfold gfO
  exact ⟨rfl, by simp⟩
def gfS (st : St) : Option (Ans (Exit × St)) :=
  match sized st 85 4, tAt st 0, tAt st 2, tAt st 71, tAt st 72, st.mem with
  | true, some (.slice (some ⟨0, 0, some 0⟩) n 12), some (.bool false), some (.int .i64 z1), some (.int .i64 z2), [.rows own true 12 n2 row, .no, .no, .no] => some (.br (Nat.beq n n2 && (okOps n row && (decide ((0 : Int) = z1) && (decide ((0 : Int) = z2))))) (.out (.exit 2, stOf 85 [(0, .slice (some ⟨0, 0, some 0⟩) n 12), (2, .bool false)] [.rows own true 12 n (opRow (opsOf n row))])) .fail)
  | _, _, _, _, _, _ => none
theorem gfK {st : St} {ans : Ans (Exit × St)} {e_ : Exit} {s_ : St} (h : gfS st = some ans) (hr : ans.res = some (e_, s_)) : LoopSem Try.prog 1 (gfX Try.prog) st e_ s_ := by
  unfold gfS at h
  split at h
  · rename_i n z1 z2 own n2 row hb hs0 hs1 hs2 hs3 hm
    simp only [Option.some.injEq] at h
    subst h
    rcases Ans.br_some hr with ⟨hc, hr1⟩ | ⟨_, hr1⟩
    · clear hr
      simp only [Bool.and_eq_true] at hc
      obtain ⟨ht0, ht1, ht2, ht3⟩ := hc
      have ht0 := beq_len ht0
      have ht2 : (0 : Int) = z1 := by simpa using ht2
      have ht3 : (0 : Int) = z2 := by simpa using ht3
      subst ht0 ht2 ht3
      have hinv : (opsOf n row).length = n := by
        exact opsOf_length n row
      have hk := stOf_keep hb [(0, .slice (some ⟨0, 0, some 0⟩) n 12), (2, .bool false), (71, vI 0), (72, vI 0)] (by
        intro x hx
        simp only [List.mem_cons, List.not_mem_nil, or_false] at hx
        rcases hx with rfl | rfl | rfl | rfl
        · exact hs0
        · exact hs1
        · exact hs2
        · exact hs3) hm
      have key := gfL own n (opsOf n row) hinv
      unfold gfH at key
      have key := LoopSem.like (m := [.rows own true 12 n row, .no, .no, .no]) key ⟨.rows (ops_like ht1), .refl _, .refl _, .refl _, trivial⟩
      have key : LoopSem Try.prog 1 (gfX Try.prog) (stOf 85 [(0, .slice (some ⟨0, 0, some 0⟩) n 12), (2, .bool false), (71, vI 0), (72, vI 0)] [.rows own true 12 n row, .no, .no, .no]) _ _ := key
      rw [← hk] at key
      have key := LoopSem.clean key
      unfold gfO at key
      simp only [Ans.res, Option.some.injEq, Prod.mk.injEq] at hr1
      obtain ⟨rfl, rfl⟩ := hr1
      exact key
    · simp [Ans.res] at hr1
  · cases h

/-- One of these, or nothing is told. -/
def anyS (S1 S2 S3 : St → Option (Ans (Exit × St))) (st : St) : Option (Ans (Exit × St)) := match S1 st with
  | some a => some a
  | none => match S2 st with
    | some a => some a
    | none => match S3 st with
      | some a => some a
      | none => some .fail
theorem anyS_ok {B : Nat} {x : Code} {S1 S2 S3 : St → Option (Ans (Exit × St))} (h1 : ∀ {st ans e s}, S1 st = some ans → ans.res = some (e, s) → LoopSem Try.prog B x st e s) (h2 : ∀ {st ans e s}, S2 st = some ans → ans.res = some (e, s) → LoopSem Try.prog B x st e s) (h3 : ∀ {st ans e s}, S3 st = some ans → ans.res = some (e, s) → LoopSem Try.prog B x st e s) {st : St} {ans : Ans (Exit × St)} {e : Exit} {s : St} (h : anyS S1 S2 S3 st = some ans) (hr : ans.res = some (e, s)) : LoopSem Try.prog B x st e s := by
  unfold anyS at h
  split at h
  · rename_i a ha
    simp only [Option.some.injEq] at h
    subst h
    exact h1 ha hr
  · split at h
    · rename_i a ha
      simp only [Option.some.injEq] at h
      subst h
      exact h2 ha hr
    · split at h
      · rename_i a ha
        simp only [Option.some.injEq] at h
        subst h
        exact h3 ha hr
      · simp only [Option.some.injEq] at h
        subst h
        simp [Ans.res] at hr
def Cgb (P : Program) : Cx := ((Cpb P).addLB 6 8 1 (anyS gaS gcS gd1S)).addLB 6 18 1 (anyS gbS geS gfS)
theorem okgb : CxOk (Cgb Try.prog) := Cx.addLB_ok (Cx.addLB_ok okpb gaX_eq fun _ _ _ _ h hr => anyS_ok gaK gcK gd1K h hr) gbX_eq fun _ _ _ _ h hr => anyS_ok gbK geK gfK h hr
end Go.Proofs.Ytcefeamjnnkahaa


namespace Go.Proofs.Ytcefeamjnnkahaa
open Go Vx
def ansB (own : Bool) (n : Nat) (Y : List O3) (b : Bool) : Option (Value × Mem) := some (.bool b, [.rows own true 12 n (opRow Y)])
/-- Two errors and two lists: the errors unlike · the lengths unlike · both. -/
def gaT (n : Nat) (row row2 : Nat → List Value) (k k1 : Nat) (r3 r4 : Nat → List Value) : Bool := Nat.beq n n && (okOps n row && (Nat.beq n n && (okOps n row2 && (Nat.beq k k1 && (Nat.beq k k && (okMts k r3 && (Nat.beq k k1 && (okMts k r4 && (decide ((k : Int) = (k : Int)) && (decide ((0 : Int) ≤ 0) && decide ((k : Int) ≤ 4611686018427387904)))))))))))
def gbT (n : Nat) (row row2 : Nat → List Value) (k k1 : Nat) (r3 r4 : Nat → List Value) : Bool := Nat.beq n n && (okOps n row && (Nat.beq n n && (okOps n row2 && (Nat.beq k k1 && (Nat.beq k k && (okVcs k r3 && (Nat.beq k k1 && (okVcs k r4 && (decide ((k : Int) = (k : Int)) && (decide ((0 : Int) ≤ 0) && decide ((k : Int) ≤ 4611686018427387904)))))))))))
def zT1 (n : Nat) (row row2 : Nat → List Value) : Bool := Nat.beq n n && (okOps n row && (decide ((0 : Int) = 0) && (decide ((0 : Int) = 0) && (Nat.beq n n && okOps n row2))))
def zT2 (n : Nat) (row : Nat → List Value) : Bool := Nat.beq n n && (okOps n row && (decide ((0 : Int) = 0) && decide ((0 : Int) = 0)))
def p2 (own : Bool) (n : Nat) (Y1 Y2 : List O3) : Option (Value × Mem) := match Nat.beq n 0 with
  | true => gd (pT n (opRow Y1)) (match chkI Y2 != 0 with
    | true => match (5 : Int) != chkI Y2 with
      | true => ansB own n Y2 false
      | false => gd (zT2 n (opRow Y2)) (ansB own n (opsOf n (opRow Y2)) true)
    | false => ansB own n Y2 false)
  | false => gd (pT n (opRow Y1)) (match chkI Y2 != 0 with
    | true => gd (pT n (opRow Y1)) (match chkI Y2 != 0 with
      | true => match chkI Y2 != chkI Y2 with
        | true => ansB own n Y2 false
        | false => gd (zT1 n (opRow Y2) (opRow Y2)) (ansB own n (opsOf n (opRow Y2)) true)
      | false => match chkI Y2 != 0 with
        | true => ansB own n Y2 false
        | false => match (0 : Int) != ((cens Y2).length : Int) with
          | true => ansB own n Y2 false
          | false => none)
    | false => gd (pT n (opRow Y1)) (match chkI Y2 != 0 with
      | true => match (0 : Int) != chkI Y2 with
        | true => ansB own n Y2 false
        | false => match ((cens Y2).length : Int) != (0 : Int) with
          | true => ansB own n Y2 false
          | false => none
      | false => match ((cens Y2).length : Int) != ((cens Y2).length : Int) with
        | true => ansB own n Y2 false
        | false => gd (gbT n (opRow Y2) (opRow Y2) (cens Y2).length (cens Y2).length (vcRow (cens Y2)) (vcRow (cens Y2))) (match alkL V3.eqB ((vcsOf (cens Y2).length (vcRow (cens Y2))).drop (0 : Int).toNat) ((vcsOf (cens Y2).length (vcRow (cens Y2))).drop (0 : Int).toNat) with
          | true => ansB own n (opsOf n (opRow Y2)) true
          | false => ansB own n (opsOf n (opRow Y2)) false)))
def p2A (own : Bool) (n : Nat) (Y : List O3) : Option (Value × Mem) := gd (twT n (opRow Y)) (p2 own n (opsOf n (opRow Y)) (opsOf n (opRow (opsOf n (opRow Y)))))
def p1 (own : Bool) (n : Nat) (Y1 Y2 : List O3) : Option (Value × Mem) := match Nat.beq n 0 with
  | true => gd (pT n (opRow Y1)) (match chkI Y2 != 0 with
    | true => match (5 : Int) != chkI Y2 with
      | true => ansB own n Y2 false
      | false => gd (zT2 n (opRow Y2)) (p2A own n (opsOf n (opRow Y2)))
    | false => ansB own n Y2 false)
  | false => gd (pT n (opRow Y1)) (match chkI Y2 != 0 with
    | true => gd (pT n (opRow Y1)) (match chkI Y2 != 0 with
      | true => match chkI Y2 != chkI Y2 with
        | true => ansB own n Y2 false
        | false => gd (zT1 n (opRow Y2) (opRow Y2)) (p2A own n (opsOf n (opRow Y2)))
      | false => match chkI Y2 != 0 with
        | true => ansB own n Y2 false
        | false => match (0 : Int) != ((rotsT Y2).length : Int) with
          | true => ansB own n Y2 false
          | false => none)
    | false => gd (pT n (opRow Y1)) (match chkI Y2 != 0 with
      | true => match (0 : Int) != chkI Y2 with
        | true => ansB own n Y2 false
        | false => match ((rotsT Y2).length : Int) != (0 : Int) with
          | true => ansB own n Y2 false
          | false => none
      | false => match ((rotsT Y2).length : Int) != ((rotsT Y2).length : Int) with
        | true => ansB own n Y2 false
        | false => gd (gaT n (opRow Y2) (opRow Y2) (rotsT Y2).length (rotsT Y2).length (mtRow (rotsT Y2)) (mtRow (rotsT Y2))) (match alkL M3.eqB ((mtsOf (rotsT Y2).length (mtRow (rotsT Y2))).drop (0 : Int).toNat) ((mtsOf (rotsT Y2).length (mtRow (rotsT Y2))).drop (0 : Int).toNat) with
          | true => p2A own n (opsOf n (opRow Y2))
          | false => ansB own n (opsOf n (opRow Y2)) false)))
theorem gpE0 : exT ((Cga Try.prog).at 6) 60 Try.f6 [.slice none 0 0] [] [] = some (.bool true, []) := by kernel_rfl
theorem gpE1 (own : Bool) (n : Nat) (xs : List O3) : exT ((Cgb Try.prog).at 6) 60 Try.f6 [.slice (some ⟨0, 0, some 0⟩) n 12] [.rows own true 12 n (opRow xs)] [.fix 0] =
    gd (twT n (opRow xs)) (p1 own n (opsOf n (opRow xs)) (opsOf n (opRow (opsOf n (opRow xs))))) := by kernel_rfl
end Go.Proofs.Ytcefeamjnnkahaa
