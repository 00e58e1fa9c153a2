/-
  The functions that the statements of this seat call, one by one: called as told, whatever the world. Nothing here is trusted.
-/
import Derived.Test.YtcefeamjnnkahaaGe
import Derived.Test.YtcefeamjnnkahaaGf

namespace Go.Proofs.Ytcefeamjnnkahaa
open Go Vx

def Cg0 (P : Program) : Cx := CL P
theorem okg0 : CxOk (Cg0 Try.prog) := okL
/-- op.checkMatrix -/
theorem eg1 (a0 a1 a2 a3 a4 a5 a6 a7 a8 : Int) : exFun ((Cg0 Try.prog).at 80) 60 Try.f80 (pack [some 9] [a0, a1, a2, a3, a4, a5, a6, a7, a8]) = tCheckM ⟨a0, a1, a2, a3, a4, a5, a6, a7, a8⟩ := by kernel_rfl
def Fg_80 : List Int → Option Value
  | [a0, a1, a2, a3, a4, a5, a6, a7, a8] => some (fCheckM ⟨a0, a1, a2, a3, a4, a5, a6, a7, a8⟩)
  | _ => none
def Cg1 (P : Program) : Cx := (Cg0 P).add 80 [some 9] Fg_80
theorem okg1 : CxOk (Cg1 Try.prog) := Cx.add_ok okg0 (n := 60) Try.func80 (by kernel_rfl) fun l v hl h => by
  match l, hl, h with
  | [a0, a1, a2, a3, a4, a5, a6, a7, a8], _, hh => rw [eg1, tCheckM_eq]; exact hh
/-- op.check -/
theorem eg2 (a0 a1 a2 a3 a4 a5 a6 a7 a8 a9 a10 a11 : Int) : exFun ((Cg1 Try.prog).at 61) 60 Try.f61 (pack [some 12] [a0, a1, a2, a3, a4, a5, a6, a7, a8, a9, a10, a11]) = tOCheck ⟨⟨a0, a1, a2, a3, a4, a5, a6, a7, a8⟩, ⟨a9, a10, a11⟩⟩ := by kernel_rfl
def Fg_61 : List Int → Option Value
  | [a0, a1, a2, a3, a4, a5, a6, a7, a8, a9, a10, a11] => some (fOCheck ⟨⟨a0, a1, a2, a3, a4, a5, a6, a7, a8⟩, ⟨a9, a10, a11⟩⟩)
  | _ => none
def Cg2 (P : Program) : Cx := (Cg1 P).add 61 [some 12] Fg_61
theorem okg2 : CxOk (Cg2 Try.prog) := Cx.add_ok okg1 (n := 60) Try.func61 (by kernel_rfl) fun l v hl h => by
  match l, hl, h with
  | [a0, a1, a2, a3, a4, a5, a6, a7, a8, a9, a10, a11], _, hh => rw [eg2, tOCheck_eq]; exact hh
/-- op.send -/
theorem eg3 (a0 a1 a2 a3 a4 a5 a6 a7 a8 a9 a10 a11 b0 b1 b2 : Int) : exFun ((Cg2 Try.prog).at 64) 60 Try.f64 (pack [some 12, some 3] [a0, a1, a2, a3, a4, a5, a6, a7, a8, a9, a10, a11, b0, b1, b2]) = tSend ⟨⟨a0, a1, a2, a3, a4, a5, a6, a7, a8⟩, ⟨a9, a10, a11⟩⟩ ⟨b0, b1, b2⟩ := by kernel_rfl
def Fg_64 : List Int → Option Value
  | [a0, a1, a2, a3, a4, a5, a6, a7, a8, a9, a10, a11, b0, b1, b2] => some (fSend ⟨⟨a0, a1, a2, a3, a4, a5, a6, a7, a8⟩, ⟨a9, a10, a11⟩⟩ ⟨b0, b1, b2⟩)
  | _ => none
def Cg3 (P : Program) : Cx := (Cg2 P).add 64 [some 12, some 3] Fg_64
theorem okg3 : CxOk (Cg3 Try.prog) := Cx.add_ok okg2 (n := 60) Try.func64 (by kernel_rfl) fun l v hl h => by
  match l, hl, h with
  | [a0, a1, a2, a3, a4, a5, a6, a7, a8, a9, a10, a11, b0, b1, b2], _, hh => rw [eg3, tSend_eq]; exact hh
/-- op.One -/
theorem eg4 : exFun ((Cg3 Try.prog).at 46) 60 Try.f46 (pack [] []) = tOne := by kernel_rfl
def Fg_46 : List Int → Option Value
  | [] => some (fOne)
  | _ => none
def Cg4 (P : Program) : Cx := (Cg3 P).add 46 [] Fg_46
theorem okg4 : CxOk (Cg4 Try.prog) := Cx.add_ok okg3 (n := 60) Try.func46 (by kernel_rfl) fun l v hl h => by
  match l, hl, h with
  | [], _, hh => rw [eg4, tOne_eq]; exact hh
/-- op.Mul -/
theorem eg5 (a0 a1 a2 a3 a4 a5 a6 a7 a8 a9 a10 a11 b0 b1 b2 b3 b4 b5 b6 b7 b8 b9 b10 b11 : Int) : exFun ((Cg4 Try.prog).at 43) 60 Try.f43 (pack [some 12, some 12] [a0, a1, a2, a3, a4, a5, a6, a7, a8, a9, a10, a11, b0, b1, b2, b3, b4, b5, b6, b7, b8, b9, b10, b11]) = tOMulN ⟨⟨a0, a1, a2, a3, a4, a5, a6, a7, a8⟩, ⟨a9, a10, a11⟩⟩ ⟨⟨b0, b1, b2, b3, b4, b5, b6, b7, b8⟩, ⟨b9, b10, b11⟩⟩ := by kernel_rfl
def Fg_43 : List Int → Option Value
  | [a0, a1, a2, a3, a4, a5, a6, a7, a8, a9, a10, a11, b0, b1, b2, b3, b4, b5, b6, b7, b8, b9, b10, b11] => some (fOMul ⟨⟨a0, a1, a2, a3, a4, a5, a6, a7, a8⟩, ⟨a9, a10, a11⟩⟩ ⟨⟨b0, b1, b2, b3, b4, b5, b6, b7, b8⟩, ⟨b9, b10, b11⟩⟩)
  | _ => none
def Cg5 (P : Program) : Cx := (Cg4 P).add 43 [some 12, some 12] Fg_43
theorem okg5 : CxOk (Cg5 Try.prog) := Cx.add_ok okg4 (n := 60) Try.func43 (by kernel_rfl) fun l v hl h => by
  match l, hl, h with
  | [a0, a1, a2, a3, a4, a5, a6, a7, a8, a9, a10, a11, b0, b1, b2, b3, b4, b5, b6, b7, b8, b9, b10, b11], _, hh => rw [eg5, tOMulN_eq]; exact hh
/-- op.Inverse -/
theorem eg6 (a0 a1 a2 a3 a4 a5 a6 a7 a8 a9 a10 a11 : Int) : exFun ((Cg5 Try.prog).at 44) 60 Try.f44 (pack [some 12] [a0, a1, a2, a3, a4, a5, a6, a7, a8, a9, a10, a11]) = tOInverse ⟨⟨a0, a1, a2, a3, a4, a5, a6, a7, a8⟩, ⟨a9, a10, a11⟩⟩ := by kernel_rfl
def Fg_44 : List Int → Option Value
  | [a0, a1, a2, a3, a4, a5, a6, a7, a8, a9, a10, a11] => some (fOInverse ⟨⟨a0, a1, a2, a3, a4, a5, a6, a7, a8⟩, ⟨a9, a10, a11⟩⟩)
  | _ => none
def Cg6 (P : Program) : Cx := (Cg5 P).add 44 [some 12] Fg_44
theorem okg6 : CxOk (Cg6 Try.prog) := Cx.add_ok okg5 (n := 60) Try.func44 (by kernel_rfl) fun l v hl h => by
  match l, hl, h with
  | [a0, a1, a2, a3, a4, a5, a6, a7, a8, a9, a10, a11], _, hh => rw [eg6, tOInverse_eq]; exact hh
/-- group.checkMap -/
theorem eg7 (a0 a1 a2 a3 a4 a5 a6 a7 a8 a9 a10 a11 : Int) : exFun ((Cg6 Try.prog).at 42) 60 Try.f42 (pack [some 12] [a0, a1, a2, a3, a4, a5, a6, a7, a8, a9, a10, a11]) = tCheckMap ⟨⟨a0, a1, a2, a3, a4, a5, a6, a7, a8⟩, ⟨a9, a10, a11⟩⟩ := by kernel_rfl
def Fg_42 : List Int → Option Value
  | [a0, a1, a2, a3, a4, a5, a6, a7, a8, a9, a10, a11] => some (fOCheck ⟨⟨a0, a1, a2, a3, a4, a5, a6, a7, a8⟩, ⟨a9, a10, a11⟩⟩)
  | _ => none
def Cg7 (P : Program) : Cx := (Cg6 P).add 42 [some 12] Fg_42
theorem okg7 : CxOk (Cg7 Try.prog) := Cx.add_ok okg6 (n := 60) Try.func42 (by kernel_rfl) fun l v hl h => by
  match l, hl, h with
  | [a0, a1, a2, a3, a4, a5, a6, a7, a8, a9, a10, a11], _, hh => rw [eg7, tCheckMap_eq]; exact hh
/-- facetref05.One -/
theorem eg8 : exFun ((Cg7 Try.prog).at 28) 60 Try.f28 (pack [] []) = tOne := by kernel_rfl
def Fg_28 : List Int → Option Value
  | [] => some (fOne)
  | _ => none
def Cg8 (P : Program) : Cx := (Cg7 P).add 28 [] Fg_28
theorem okg8 : CxOk (Cg8 Try.prog) := Cx.add_ok okg7 (n := 60) Try.func28 (by kernel_rfl) fun l v hl h => by
  match l, hl, h with
  | [], _, hh => rw [eg8, tOne_eq]; exact hh
/-- cmp.isNaN[int] -/
theorem eg9 (a : Int) : exFun ((Cg8 Try.prog).at 94) 60 Try.f94 (pack [none] [a]) = tNaN a := by kernel_rfl
def Fg_94 : List Int → Option Value
  | [a] => some (fNaN a)
  | _ => none
def Cg9 (P : Program) : Cx := (Cg8 P).add 94 [none] Fg_94
theorem okg9 : CxOk (Cg9 Try.prog) := Cx.add_ok okg8 (n := 60) Try.func94 (by kernel_rfl) fun l v hl h => by
  match l, hl, h with
  | [a], _, hh => rw [eg9, tNaN_eq]; exact hh
/-- cmp.Compare[int] -/
theorem eg10 (a b : Int) : exFun ((Cg9 Try.prog).at 79) 60 Try.f79 (pack [none, none] [a, b]) = tCmp a b := by kernel_rfl
def Fg_79 : List Int → Option Value
  | [a, b] => some (fCmp a b)
  | _ => none
def Cg10 (P : Program) : Cx := (Cg9 P).add 79 [none, none] Fg_79
theorem okg10 : CxOk (Cg10 Try.prog) := Cx.add_ok okg9 (n := 60) Try.func79 (by kernel_rfl) fun l v hl h => by
  match l, hl, h with
  | [a, b], _, hh => rw [eg10, tCmp_eq]; exact hh
/-- vec.Compare -/
theorem eg11 (a0 a1 a2 a3 a4 a5 a6 a7 a8 b0 b1 b2 b3 b4 b5 b6 b7 b8 : Int) : exFun ((Cg10 Try.prog).at 51) 60 Try.f51 (pack [some 9, some 9] [a0, a1, a2, a3, a4, a5, a6, a7, a8, b0, b1, b2, b3, b4, b5, b6, b7, b8]) = tVCompare ⟨a0, a1, a2, a3, a4, a5, a6, a7, a8⟩ ⟨b0, b1, b2, b3, b4, b5, b6, b7, b8⟩ := by kernel_rfl
def Fg_51 : List Int → Option Value
  | [a0, a1, a2, a3, a4, a5, a6, a7, a8, b0, b1, b2, b3, b4, b5, b6, b7, b8] => some (fVCompare ⟨a0, a1, a2, a3, a4, a5, a6, a7, a8⟩ ⟨b0, b1, b2, b3, b4, b5, b6, b7, b8⟩)
  | _ => none
def Cg11 (P : Program) : Cx := (Cg10 P).add 51 [some 9, some 9] Fg_51
theorem okg11 : CxOk (Cg11 Try.prog) := Cx.add_ok okg10 (n := 60) Try.func51 (by kernel_rfl) fun l v hl h => by
  match l, hl, h with
  | [a0, a1, a2, a3, a4, a5, a6, a7, a8, b0, b1, b2, b3, b4, b5, b6, b7, b8], _, hh => rw [eg11, tVCompare_eq]; exact hh
/-- op.Compare -/
theorem eg12 (a0 a1 a2 a3 a4 a5 a6 a7 a8 a9 a10 a11 b0 b1 b2 b3 b4 b5 b6 b7 b8 b9 b10 b11 : Int) : exFun ((Cg11 Try.prog).at 33) 60 Try.f33 (pack [some 12, some 12] [a0, a1, a2, a3, a4, a5, a6, a7, a8, a9, a10, a11, b0, b1, b2, b3, b4, b5, b6, b7, b8, b9, b10, b11]) = tOCompare ⟨⟨a0, a1, a2, a3, a4, a5, a6, a7, a8⟩, ⟨a9, a10, a11⟩⟩ ⟨⟨b0, b1, b2, b3, b4, b5, b6, b7, b8⟩, ⟨b9, b10, b11⟩⟩ := by kernel_rfl
def Fg_33 : List Int → Option Value
  | [a0, a1, a2, a3, a4, a5, a6, a7, a8, a9, a10, a11, b0, b1, b2, b3, b4, b5, b6, b7, b8, b9, b10, b11] => some (fOCompare ⟨⟨a0, a1, a2, a3, a4, a5, a6, a7, a8⟩, ⟨a9, a10, a11⟩⟩ ⟨⟨b0, b1, b2, b3, b4, b5, b6, b7, b8⟩, ⟨b9, b10, b11⟩⟩)
  | _ => none
def Cg12 (P : Program) : Cx := (Cg11 P).add 33 [some 12, some 12] Fg_33
theorem okg12 : CxOk (Cg12 Try.prog) := Cx.add_ok okg11 (n := 60) Try.func33 (by kernel_rfl) fun l v hl h => by
  match l, hl, h with
  | [a0, a1, a2, a3, a4, a5, a6, a7, a8, a9, a10, a11, b0, b1, b2, b3, b4, b5, b6, b7, b8, b9, b10, b11], _, hh => rw [eg12, tOCompare_eq]; exact hh

def CCg (P : Program) : Cx := Cg12 P
theorem okCg : CxOk (CCg Try.prog) := okg12

end Go.Proofs.Ytcefeamjnnkahaa


namespace Go.Proofs.Ytcefeamjnnkahaa
open Go Vx
/-- The map at a place. -/
def atO (xs : List O3) (i : Int) : O3 := (xs[i.toNat]?).getD O3.zero
def leastL : List O3 → Int → Int
  | [], e => e
  | o :: l, e => leastL l (leastN e o.ck)
theorem drop_at {xs : List O3} {i : Int} (h0 : 0 ≤ i) (h : i < (xs.length : Int)) : xs.drop i.toNat = atO xs i :: xs.drop (i + 1).toNat := by
  have hlt : i.toNat < xs.length := by omega
  rw [show (i + 1).toNat = i.toNat + 1 by omega, List.drop_eq_getElem_cons hlt]
  unfold atO
  rw [List.getElem?_eq_getElem hlt]
  rfl

def ckmX (P : Program) : Code := (loopsOf P 29 5).headD .skip
theorem ckmX_eq : loopsOf Try.prog 29 5 = [ckmX Try.prog] := by kernel_rfl
def ckmH (own : Bool) (n : Nat) (xs : List O3) (e : Int) (i : Int) : St := stOf 22 [(3, vI e), (9, .slice (some ⟨0, 0, some 0⟩) n 12), (10, vI n), (11, vI i)] [.rows own true 12 n (opRow xs)]
theorem ckmR (own : Bool) (n : Nat) (xs : List O3) (e : Int) (i : Int) : roundR ((CCg Try.prog).into 29 1) 40 (ckmX Try.prog) [3, 9, 10, 11] [3] [.fix 0] [.fix 0] (ckmH own n xs e i) =
    match decide (i < (n : Int)) with
    | true => match boundsI i n with
      | true => some (.normal, ckmH own n xs (leastN e (atO xs i).ck) (W (i + 1)))
      | false => none
    | false => some (.exit 0, stOf 22 [(3, vI e)] [.rows own true 12 n (opRow xs)]) := by kernel_rfl
structure ckmG where
  (own : Bool) (n : Nat) (xs : List O3) (e : Int) (i : Int)
def ckmO (own : Bool) (n : Nat) (xs : List O3) (e : Int) (i : Int) : Exit × St :=
  (.exit 0, stOf 22 [(3, vI (leastL (xs.drop i.toNat) e))] [.rows own true 12 n (opRow xs)])
theorem ckmL (own : Bool) (n : Nat) (xs : List O3) (e : Int) (i : Int) (hg : 0 ≤ i ∧ (n : Int) ≤ 4611686018427387904 ∧ xs.length = n) : LoopSem Try.prog 1 (ckmX Try.prog) (ckmH own n xs e i) (ckmO own n xs e i).1 (ckmO own n xs e i).2 := by
  refine loop_rule (C := CCg Try.prog) okCg (f := 29) (B := 1) (loopsOf_in (k := 5) ckmX_eq) 40 [3, 9, 10, 11] [3] [.fix 0] [.fix 0] (fun g : ckmG => ckmH g.own g.n g.xs g.e g.i) (fun g => (g.n - g.i).toNat) (fun g => 0 ≤ g.i ∧ (g.n : Int) ≤ 4611686018427387904 ∧ g.xs.length = g.n) (fun g => ckmO g.own g.n g.xs g.e g.i) ?_ ⟨own, n, xs, e, i⟩ hg
  clear hg
  rintro ⟨own, n, xs, e, i⟩ hg
  simp only at hg
  simp only [ckmR]
  obtain ⟨h0, h1, h2⟩ := hg
  by_cases hi : i < (n : Int)
  · have hd : decide (i < (n : Int)) = true := by simpa using hi
    have hb : boundsI i n = true := by simp [boundsI, h0, hi]
    rw [hd, hb]
    left
    have hw : W (i + 1) = i + 1 := W_in (by omega)
    refine ⟨⟨own, n, xs, leastN e (atO xs i).ck, i + 1⟩, by rw [hw], ⟨by simp only; omega, h1, h2⟩, by simp only; omega, ?_⟩
    unfold ckmO
    simp only
    rw [drop_at h0 (by omega)]
    rfl
  · have hd : decide (i < (n : Int)) = false := by simpa using hi
    rw [hd]
    right
    have hn : xs.drop i.toNat = [] := List.drop_eq_nil_of_le (by omega)
    unfold ckmO
    simp only [hn]
    exact ⟨rfl, by simp⟩
def ckmS (st : St) : Option (Ans (Exit × St)) :=
  match sized st 22 1, tAt st 3, tAt st 9, tAt st 10, tAt st 11, st.mem with
  | true, some (.int .i64 e), some (.slice (some ⟨0, 0, some 0⟩) n 12), some (.int .i64 ln), some (.int .i64 i), [.rows own true 12 n2 row] => some (.br (Nat.beq n n2 && (okOps n row && (decide ((n : Int) = ln) && (decide (0 ≤ i) && (decide ((n : Int) ≤ 4611686018427387904)))))) (.out (.exit 0, stOf 22 [(3, vI (leastL ((opsOf n row).drop i.toNat) e))] [.rows own true 12 n (opRow (opsOf n row))])) .fail)
  | _, _, _, _, _, _ => none
theorem ckmK {st : St} {ans : Ans (Exit × St)} {e_ : Exit} {s_ : St} (h : ckmS st = some ans) (hr : ans.res = some (e_, s_)) : LoopSem Try.prog 1 (ckmX Try.prog) st e_ s_ := by
  unfold ckmS at h
  split at h
  · rename_i e n ln i own n2 row hb hs0 hs1 hs2 hs3 hm
    simp only [Option.some.injEq] at h
    subst h
    rcases Ans.br_some hr with ⟨hc, hr1⟩ | ⟨_, hr1⟩
    · clear hr
      simp only [Bool.and_eq_true] at hc
      obtain ⟨ht0, ht1, ht2, ht3, ht4⟩ := hc
      have ht0 := beq_len ht0
      subst ht0
      have ht2 : (n : Int) = ln := by simpa using ht2
      subst ht2
      have hinv : 0 ≤ i ∧ (n : Int) ≤ 4611686018427387904 ∧ (opsOf n row).length = n := by
        exact ⟨by simpa using ht3, by simpa using ht4, opsOf_length n row⟩
      have hk := stOf_keep hb [(3, vI e), (9, .slice (some ⟨0, 0, some 0⟩) n 12), (10, vI n), (11, vI i)] (by
        intro x hx
        simp only [List.mem_cons, List.not_mem_nil, or_false] at hx
        rcases hx with rfl | rfl | rfl | rfl
        · exact hs0
        · exact hs1
        · exact hs2
        · exact hs3) hm
      have key := ckmL own n (opsOf n row) e i hinv
      unfold ckmH at key
      have key := LoopSem.like (m := [.rows own true 12 n row]) key ⟨.rows (ops_like ht1), trivial⟩
      have key : LoopSem Try.prog 1 (ckmX Try.prog) (stOf 22 [(3, vI e), (9, .slice (some ⟨0, 0, some 0⟩) n 12), (10, vI n), (11, vI i)] [.rows own true 12 n row]) _ _ := key
      rw [← hk] at key
      have key := LoopSem.clean key
      unfold ckmO at key
      simp only [Ans.res, Option.some.injEq, Prod.mk.injEq] at hr1
      obtain ⟨rfl, rfl⟩ := hr1
      exact key
    · simp [Ans.res] at hr1
  · cases h
end Go.Proofs.Ytcefeamjnnkahaa


namespace Go.Proofs.Ytcefeamjnnkahaa
open Go Vx
theorem opsOf_row {xs : List O3} {n : Nat} (h : xs.length = n) : opsOf n (opRow xs) = xs := by subst h; exact opsOf_opRow xs
theorem beq_self (n : Nat) : Nat.beq n n = true := Nat.beq_refl n
def Ckm (P : Program) : Cx := (CCg P).addLB 29 5 1 ckmS
theorem okm : CxOk (Ckm Try.prog) := Cx.addLB_ok okCg ckmX_eq fun _ _ _ _ h hr => ckmK h hr
def ckMaps (xs : List O3) : Int := if (xs.length : Int) > 192 then 2 else leastL xs 0

/-- group.checkMaps -/
theorem ckmsE0 : (exFunA ((Ckm Try.prog).at 29) 60 Try.f29 [.slice none 0 0] []).res = some (vI 0, []) := by kernel_rfl
theorem ckmsE1 (own : Bool) (n : Nat) (xs : List O3) : (exFunA ((Ckm Try.prog).at 29) 60 Try.f29 [.slice (some ⟨0, 0, some 0⟩) n 12] [.rows own true 12 n (opRow xs)]).res = (match decide ((n : Int) > 192) with
    | true => some (vI 2, [.rows own true 12 n (opRow xs)])
    | false => gd (Nat.beq n n && (okOps n (opRow xs) && (decide ((n : Int) = (n : Int)) && (decide ((0 : Int) ≤ 0) && decide ((n : Int) ≤ 4611686018427387904))))) (some (vI (leastL ((opsOf n (opRow xs)).drop (0 : Int).toNat) 0), [.rows own true 12 n (opRow (opsOf n (opRow xs)))]))) := by kernel_rfl
theorem ckmsE (own : Bool) (n : Nat) (xs : List O3) (hx : xs.length = n) : (exFunA ((Ckm Try.prog).at 29) 60 Try.f29 [.slice (some ⟨0, 0, some 0⟩) n 12] [.rows own true 12 n (opRow xs)]).res = some (vI (ckMaps xs), [.rows own true 12 n (opRow xs)]) := by
  rw [ckmsE1]
  unfold ckMaps
  by_cases h : (n : Int) > 192
  · rw [decide_eq_true h, if_pos (by omega)]
  · have hb : decide ((n : Int) ≤ 4611686018427387904) = true := by simp; omega
    rw [decide_eq_false h, if_neg (by omega), opsOf_row hx, hb]
    simp [okOps_opRow, gd]
def ckmsF : List Value → Mem → Option (Ans (Value × Mem))
  | [.slice none 0 0], [] => some (.out (vI 0, []))
  | [.slice (some ⟨0, 0, some 0⟩) n 12], [.rows own true 12 n2 row] => some (.br (Nat.beq n n2 && okOps n row) (.out (vI (ckMaps (opsOf n row)), [.rows own true 12 n (opRow (opsOf n row))])) .fail)
  | _, _ => none
def Cckm (P : Program) : Cx := (Ckm P).addF 29 ckmsF
theorem okckm : CxOk (Cckm Try.prog) := Cx.addF_ok okm fun args m ans v m' h hr => by
  unfold ckmsF at h
  split at h
  · simp only [Option.some.injEq] at h
    subst h
    simp only [Ans.res, Option.some.injEq, Prod.mk.injEq] at hr
    obtain ⟨rfl, rfl⟩ := hr
    exact exFunA_ok (n := 60) okm Try.func29 (by kernel_rfl) ckmsE0
  · rename_i n own n2 row
    simp only [Option.some.injEq] at h
    subst h
    rcases Ans.br_some hr with ⟨hc, hr1⟩ | ⟨_, hr1⟩
    · clear hr
      simp only [Bool.and_eq_true] at hc
      obtain ⟨h0, h1⟩ := hc
      have h0 := beq_len h0
      subst h0
      simp only [Ans.res, Option.some.injEq, Prod.mk.injEq] at hr1
      obtain ⟨rfl, rfl⟩ := hr1
      exact (exFunA_ok (n := 60) okm Try.func29 (by kernel_rfl) (ckmsE own n (opsOf n row) (opsOf_length n row))).like ⟨.rows (ops_like h1), trivial⟩
    · simp [Ans.res] at hr1
  · cases h
end Go.Proofs.Ytcefeamjnnkahaa


namespace Go.Proofs.Ytcefeamjnnkahaa
open Go Vx
/-- The numbers of a map. -/
def key (o : O3) : List Int := [o.r.a, o.r.b, o.r.c, o.r.d, o.r.e, o.r.f, o.r.g, o.r.h, o.r.i, o.t.x, o.t.y, o.t.z]
theorem key_inj {a b : O3} (h : key a = key b) : a = b := by
  cases a with | mk r t => cases b with | mk r' t' => cases r; cases t; cases r'; cases t'; simp [key] at h; simp [h]
theorem key_of : ∀ {xs : List Int}, xs.length = 12 → ∃ o, xs = key o
  | [a, b, c, d, e, f, g, h, i, x, y, z], _ => ⟨⟨⟨a, b, c, d, e, f, g, h, i⟩, ⟨x, y, z⟩⟩, rfl⟩
theorem eqOp (a b : O3) : eqCells Try.prog 9 37 a.cells b.cells = some (a.eqB b) := by kernel_rfl
theorem chkOp (a : O3) (b : Bool) (w : World) : (Instr.checkKey b 10000 37 (.agg a.cells.toArray)).run Try.prog w = .ok () w := by kernel_rfl
theorem keyOk : KeyOk Try.prog 37 12 := by
  refine ⟨fun xs ys hx hy w => ?_, fun xs hx b w => ?_, Option.isSome_iff_exists.1 (by kernel_rfl)⟩
  · obtain ⟨a, rfl⟩ := key_of hx
    obtain ⟨b, rfl⟩ := key_of hy
    have := equal_run (P := Try.prog) (t := 37) (xs := a.cells.toArray) (ys := b.cells.toArray) (by kernel_rfl) (eqOp a b) w
    have e : decide (key b = key a) = a.eqB b := by
      rw [Bool.eq_iff_iff, decide_eq_true_eq, O3.eqB_iff]
      exact ⟨fun h => (key_inj h).symm, fun h => by rw [h]⟩
    rw [e]
    exact this
  · obtain ⟨a, rfl⟩ := key_of hx
    exact chkOp a b w
def Ck (P : Program) : Cx := (Cckm P).addK 37 12
theorem okk : CxOk (Ck Try.prog) := Cx.addK_ok okckm keyOk
end Go.Proofs.Ytcefeamjnnkahaa
