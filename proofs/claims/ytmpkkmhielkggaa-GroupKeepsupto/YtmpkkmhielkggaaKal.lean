/-
  The functions that the statements of this seat call, one by one: called as told, whatever the world. Nothing here is trusted.
-/
import Derived.Test.YtmpkkmhielkggaaKaj
import Derived.Test.YtmpkkmhielkggaaKak

namespace Go.Proofs.Ytmpkkmhielkggaa
open Go Vx

def Cg0 (P : Program) : Cx := CL P
theorem okg0 : CxOk (Cg0 Try.prog) := okL
/-- op.checkMatrix -/
theorem eg1 (a0 a1 a2 a3 a4 a5 a6 a7 a8 : Int) : exFun ((Cg0 Try.prog).at 88) 60 Try.f88 (pack [some 9] [a0, a1, a2, a3, a4, a5, a6, a7, a8]) = tCheckM ⟨a0, a1, a2, a3, a4, a5, a6, a7, a8⟩ := by kernel_rfl
def Fg_88 : List Int → Option Value
  | [a0, a1, a2, a3, a4, a5, a6, a7, a8] => some (fCheckM ⟨a0, a1, a2, a3, a4, a5, a6, a7, a8⟩)
  | _ => none
def Cg1 (P : Program) : Cx := (Cg0 P).add 88 [some 9] Fg_88
theorem okg1 : CxOk (Cg1 Try.prog) := Cx.add_ok okg0 (n := 60) Try.func88 (by kernel_rfl) fun l v hl h => by
  match l, hl, h with
  | [a0, a1, a2, a3, a4, a5, a6, a7, a8], _, hh => rw [eg1, tCheckM_eq]; exact hh
/-- op.check -/
theorem eg2 (a0 a1 a2 a3 a4 a5 a6 a7 a8 a9 a10 a11 : Int) : exFun ((Cg1 Try.prog).at 62) 60 Try.f62 (pack [some 12] [a0, a1, a2, a3, a4, a5, a6, a7, a8, a9, a10, a11]) = tOCheck ⟨⟨a0, a1, a2, a3, a4, a5, a6, a7, a8⟩, ⟨a9, a10, a11⟩⟩ := by kernel_rfl
def Fg_62 : List Int → Option Value
  | [a0, a1, a2, a3, a4, a5, a6, a7, a8, a9, a10, a11] => some (fOCheck ⟨⟨a0, a1, a2, a3, a4, a5, a6, a7, a8⟩, ⟨a9, a10, a11⟩⟩)
  | _ => none
def Cg2 (P : Program) : Cx := (Cg1 P).add 62 [some 12] Fg_62
theorem okg2 : CxOk (Cg2 Try.prog) := Cx.add_ok okg1 (n := 60) Try.func62 (by kernel_rfl) fun l v hl h => by
  match l, hl, h with
  | [a0, a1, a2, a3, a4, a5, a6, a7, a8, a9, a10, a11], _, hh => rw [eg2, tOCheck_eq]; exact hh
/-- op.send -/
theorem eg3 (a0 a1 a2 a3 a4 a5 a6 a7 a8 a9 a10 a11 b0 b1 b2 : Int) : exFun ((Cg2 Try.prog).at 123) 60 Try.f123 (pack [some 12, some 3] [a0, a1, a2, a3, a4, a5, a6, a7, a8, a9, a10, a11, b0, b1, b2]) = tSend ⟨⟨a0, a1, a2, a3, a4, a5, a6, a7, a8⟩, ⟨a9, a10, a11⟩⟩ ⟨b0, b1, b2⟩ := by kernel_rfl
def Fg_123 : List Int → Option Value
  | [a0, a1, a2, a3, a4, a5, a6, a7, a8, a9, a10, a11, b0, b1, b2] => some (fSend ⟨⟨a0, a1, a2, a3, a4, a5, a6, a7, a8⟩, ⟨a9, a10, a11⟩⟩ ⟨b0, b1, b2⟩)
  | _ => none
def Cg3 (P : Program) : Cx := (Cg2 P).add 123 [some 12, some 3] Fg_123
theorem okg3 : CxOk (Cg3 Try.prog) := Cx.add_ok okg2 (n := 60) Try.func123 (by kernel_rfl) fun l v hl h => by
  match l, hl, h with
  | [a0, a1, a2, a3, a4, a5, a6, a7, a8, a9, a10, a11, b0, b1, b2], _, hh => rw [eg3, tSend_eq]; exact hh
/-- op.One -/
theorem eg4 : exFun ((Cg3 Try.prog).at 46) 60 Try.f46 (pack [] []) = tOne := by kernel_rfl
def Fg_46 : List Int → Option Value
  | [] => some (fOne)
  | _ => none
def Cg4 (P : Program) : Cx := (Cg3 P).add 46 [] Fg_46
theorem okg4 : CxOk (Cg4 Try.prog) := Cx.add_ok okg3 (n := 60) Try.func46 (by kernel_rfl) fun l v hl h => by
  match l, hl, h with
  | [], _, hh => rw [eg4, tOne_eq]; exact hh
/-- op.Mul -/
theorem eg5 (a0 a1 a2 a3 a4 a5 a6 a7 a8 a9 a10 a11 b0 b1 b2 b3 b4 b5 b6 b7 b8 b9 b10 b11 : Int) : exFun ((Cg4 Try.prog).at 97) 60 Try.f97 (pack [some 12, some 12] [a0, a1, a2, a3, a4, a5, a6, a7, a8, a9, a10, a11, b0, b1, b2, b3, b4, b5, b6, b7, b8, b9, b10, b11]) = tOMulN ⟨⟨a0, a1, a2, a3, a4, a5, a6, a7, a8⟩, ⟨a9, a10, a11⟩⟩ ⟨⟨b0, b1, b2, b3, b4, b5, b6, b7, b8⟩, ⟨b9, b10, b11⟩⟩ := by kernel_rfl
def Fg_97 : List Int → Option Value
  | [a0, a1, a2, a3, a4, a5, a6, a7, a8, a9, a10, a11, b0, b1, b2, b3, b4, b5, b6, b7, b8, b9, b10, b11] => some (fOMul ⟨⟨a0, a1, a2, a3, a4, a5, a6, a7, a8⟩, ⟨a9, a10, a11⟩⟩ ⟨⟨b0, b1, b2, b3, b4, b5, b6, b7, b8⟩, ⟨b9, b10, b11⟩⟩)
  | _ => none
def Cg5 (P : Program) : Cx := (Cg4 P).add 97 [some 12, some 12] Fg_97
theorem okg5 : CxOk (Cg5 Try.prog) := Cx.add_ok okg4 (n := 60) Try.func97 (by kernel_rfl) fun l v hl h => by
  match l, hl, h with
  | [a0, a1, a2, a3, a4, a5, a6, a7, a8, a9, a10, a11, b0, b1, b2, b3, b4, b5, b6, b7, b8, b9, b10, b11], _, hh => rw [eg5, tOMulN_eq]; exact hh
/-- op.Inverse -/
theorem eg6 (a0 a1 a2 a3 a4 a5 a6 a7 a8 a9 a10 a11 : Int) : exFun ((Cg5 Try.prog).at 72) 60 Try.f72 (pack [some 12] [a0, a1, a2, a3, a4, a5, a6, a7, a8, a9, a10, a11]) = tOInverse ⟨⟨a0, a1, a2, a3, a4, a5, a6, a7, a8⟩, ⟨a9, a10, a11⟩⟩ := by kernel_rfl
def Fg_72 : List Int → Option Value
  | [a0, a1, a2, a3, a4, a5, a6, a7, a8, a9, a10, a11] => some (fOInverse ⟨⟨a0, a1, a2, a3, a4, a5, a6, a7, a8⟩, ⟨a9, a10, a11⟩⟩)
  | _ => none
def Cg6 (P : Program) : Cx := (Cg5 P).add 72 [some 12] Fg_72
theorem okg6 : CxOk (Cg6 Try.prog) := Cx.add_ok okg5 (n := 60) Try.func72 (by kernel_rfl) fun l v hl h => by
  match l, hl, h with
  | [a0, a1, a2, a3, a4, a5, a6, a7, a8, a9, a10, a11], _, hh => rw [eg6, tOInverse_eq]; exact hh
/-- group.checkMap -/
theorem eg7 (a0 a1 a2 a3 a4 a5 a6 a7 a8 a9 a10 a11 : Int) : exFun ((Cg6 Try.prog).at 43) 60 Try.f43 (pack [some 12] [a0, a1, a2, a3, a4, a5, a6, a7, a8, a9, a10, a11]) = tCheckMap ⟨⟨a0, a1, a2, a3, a4, a5, a6, a7, a8⟩, ⟨a9, a10, a11⟩⟩ := by kernel_rfl
def Fg_43 : List Int → Option Value
  | [a0, a1, a2, a3, a4, a5, a6, a7, a8, a9, a10, a11] => some (fOCheck ⟨⟨a0, a1, a2, a3, a4, a5, a6, a7, a8⟩, ⟨a9, a10, a11⟩⟩)
  | _ => none
def Cg7 (P : Program) : Cx := (Cg6 P).add 43 [some 12] Fg_43
theorem okg7 : CxOk (Cg7 Try.prog) := Cx.add_ok okg6 (n := 60) Try.func43 (by kernel_rfl) fun l v hl h => by
  match l, hl, h with
  | [a0, a1, a2, a3, a4, a5, a6, a7, a8, a9, a10, a11], _, hh => rw [eg7, tCheckMap_eq]; exact hh
/-- facetref05.One -/
theorem eg8 : exFun ((Cg7 Try.prog).at 20) 60 Try.f20 (pack [] []) = tOne := by kernel_rfl
def Fg_20 : List Int → Option Value
  | [] => some (fOne)
  | _ => none
def Cg8 (P : Program) : Cx := (Cg7 P).add 20 [] Fg_20
theorem okg8 : CxOk (Cg8 Try.prog) := Cx.add_ok okg7 (n := 60) Try.func20 (by kernel_rfl) fun l v hl h => by
  match l, hl, h with
  | [], _, hh => rw [eg8, tOne_eq]; exact hh
/-- cmp.isNaN[int] -/
theorem eg9 (a : Int) : exFun ((Cg8 Try.prog).at 91) 60 Try.f91 (pack [none] [a]) = tNaN a := by kernel_rfl
def Fg_91 : List Int → Option Value
  | [a] => some (fNaN a)
  | _ => none
def Cg9 (P : Program) : Cx := (Cg8 P).add 91 [none] Fg_91
theorem okg9 : CxOk (Cg9 Try.prog) := Cx.add_ok okg8 (n := 60) Try.func91 (by kernel_rfl) fun l v hl h => by
  match l, hl, h with
  | [a], _, hh => rw [eg9, tNaN_eq]; exact hh
/-- cmp.Compare[int] -/
theorem eg10 (a b : Int) : exFun ((Cg9 Try.prog).at 66) 60 Try.f66 (pack [none, none] [a, b]) = tCmp a b := by kernel_rfl
def Fg_66 : List Int → Option Value
  | [a, b] => some (fCmp a b)
  | _ => none
def Cg10 (P : Program) : Cx := (Cg9 P).add 66 [none, none] Fg_66
theorem okg10 : CxOk (Cg10 Try.prog) := Cx.add_ok okg9 (n := 60) Try.func66 (by kernel_rfl) fun l v hl h => by
  match l, hl, h with
  | [a, b], _, hh => rw [eg10, tCmp_eq]; exact hh
/-- vec.Compare -/
theorem eg11 (a0 a1 a2 a3 a4 a5 a6 a7 a8 b0 b1 b2 b3 b4 b5 b6 b7 b8 : Int) : exFun ((Cg10 Try.prog).at 44) 60 Try.f44 (pack [some 9, some 9] [a0, a1, a2, a3, a4, a5, a6, a7, a8, b0, b1, b2, b3, b4, b5, b6, b7, b8]) = tVCompare ⟨a0, a1, a2, a3, a4, a5, a6, a7, a8⟩ ⟨b0, b1, b2, b3, b4, b5, b6, b7, b8⟩ := by kernel_rfl
def Fg_44 : List Int → Option Value
  | [a0, a1, a2, a3, a4, a5, a6, a7, a8, b0, b1, b2, b3, b4, b5, b6, b7, b8] => some (fVCompare ⟨a0, a1, a2, a3, a4, a5, a6, a7, a8⟩ ⟨b0, b1, b2, b3, b4, b5, b6, b7, b8⟩)
  | _ => none
def Cg11 (P : Program) : Cx := (Cg10 P).add 44 [some 9, some 9] Fg_44
theorem okg11 : CxOk (Cg11 Try.prog) := Cx.add_ok okg10 (n := 60) Try.func44 (by kernel_rfl) fun l v hl h => by
  match l, hl, h with
  | [a0, a1, a2, a3, a4, a5, a6, a7, a8, b0, b1, b2, b3, b4, b5, b6, b7, b8], _, hh => rw [eg11, tVCompare_eq]; exact hh
/-- op.Compare -/
theorem eg12 (a0 a1 a2 a3 a4 a5 a6 a7 a8 a9 a10 a11 b0 b1 b2 b3 b4 b5 b6 b7 b8 b9 b10 b11 : Int) : exFun ((Cg11 Try.prog).at 16) 60 Try.f16 (pack [some 12, some 12] [a0, a1, a2, a3, a4, a5, a6, a7, a8, a9, a10, a11, b0, b1, b2, b3, b4, b5, b6, b7, b8, b9, b10, b11]) = tOCompare ⟨⟨a0, a1, a2, a3, a4, a5, a6, a7, a8⟩, ⟨a9, a10, a11⟩⟩ ⟨⟨b0, b1, b2, b3, b4, b5, b6, b7, b8⟩, ⟨b9, b10, b11⟩⟩ := by kernel_rfl
def Fg_16 : List Int → Option Value
  | [a0, a1, a2, a3, a4, a5, a6, a7, a8, a9, a10, a11, b0, b1, b2, b3, b4, b5, b6, b7, b8, b9, b10, b11] => some (fOCompare ⟨⟨a0, a1, a2, a3, a4, a5, a6, a7, a8⟩, ⟨a9, a10, a11⟩⟩ ⟨⟨b0, b1, b2, b3, b4, b5, b6, b7, b8⟩, ⟨b9, b10, b11⟩⟩)
  | _ => none
def Cg12 (P : Program) : Cx := (Cg11 P).add 16 [some 12, some 12] Fg_16
theorem okg12 : CxOk (Cg12 Try.prog) := Cx.add_ok okg11 (n := 60) Try.func16 (by kernel_rfl) fun l v hl h => by
  match l, hl, h with
  | [a0, a1, a2, a3, a4, a5, a6, a7, a8, a9, a10, a11, b0, b1, b2, b3, b4, b5, b6, b7, b8, b9, b10, b11], _, hh => rw [eg12, tOCompare_eq]; exact hh

def CCg (P : Program) : Cx := Cg12 P
theorem okCg : CxOk (CCg Try.prog) := okg12

end Go.Proofs.Ytmpkkmhielkggaa


namespace Go.Proofs.Ytmpkkmhielkggaa
open Go Vx
/-- The map at a place. -/
def atO (xs : List O3) (i : Int) : O3 := (xs[i.toNat]?).getD O3.zero
def leastL : List O3 → Int → Int
  | [], e => e
  | o :: l, e => leastL l (leastN e o.ck)
theorem drop_at {xs : List O3} {i : Int} (h0 : 0 ≤ i) (h : i < (xs.length : Int)) : xs.drop i.toNat = atO xs i :: xs.drop (i + 1).toNat := by
  have hlt : i.toNat < xs.length := by omega
  rw [show (i + 1).toNat = i.toNat + 1 by omega, List.drop_eq_getElem_cons hlt]
  unfold atO
  rw [List.getElem?_eq_getElem hlt]
  rfl

def ckmX (P : Program) : Code := (loopsOf P 36 5).headD .skip
theorem ckmX_eq : loopsOf Try.prog 36 5 = [ckmX Try.prog] := by kernel_rfl
def ckmH (own : Bool) (n : Nat) (xs : List O3) (e : Int) (i : Int) : St := stOf 22 [(3, vI e), (9, .slice (some ⟨0, 0, some 0⟩) n 12), (10, vI n), (11, vI i)] [.rows own true 12 n (opRow xs)]
theorem ckmR (own : Bool) (n : Nat) (xs : List O3) (e : Int) (i : Int) : roundR ((CCg Try.prog).into 36 1) 40 (ckmX Try.prog) [3, 9, 10, 11] [3] [.fix 0] [.fix 0] (ckmH own n xs e i) =
    match decide (i < (n : Int)) with
    | true => match boundsI i n with
      | true => some (.normal, ckmH own n xs (leastN e (atO xs i).ck) (W (i + 1)))
      | false => none
    | false => some (.exit 0, stOf 22 [(3, vI e)] [.rows own true 12 n (opRow xs)]) := by kernel_rfl
structure ckmG where
  (own : Bool) (n : Nat) (xs : List O3) (e : Int) (i : Int)
def ckmO (own : Bool) (n : Nat) (xs : List O3) (e : Int) (i : Int) : Exit × St :=
  (.exit 0, stOf 22 [(3, vI (leastL (xs.drop i.toNat) e))] [.rows own true 12 n (opRow xs)])
theorem ckmL (own : Bool) (n : Nat) (xs : List O3) (e : Int) (i : Int) (hg : 0 ≤ i ∧ (n : Int) ≤ 4611686018427387904 ∧ xs.length = n) : LoopSem Try.prog 1 (ckmX Try.prog) (ckmH own n xs e i) (ckmO own n xs e i).1 (ckmO own n xs e i).2 := by
  refine loop_rule (C := CCg Try.prog) okCg (f := 36) (B := 1) (loopsOf_in (k := 5) ckmX_eq) 40 [3, 9, 10, 11] [3] [.fix 0] [.fix 0] (fun g : ckmG => ckmH g.own g.n g.xs g.e g.i) (fun g => (g.n - g.i).toNat) (fun g => 0 ≤ g.i ∧ (g.n : Int) ≤ 4611686018427387904 ∧ g.xs.length = g.n) (fun g => ckmO g.own g.n g.xs g.e g.i) ?_ ⟨own, n, xs, e, i⟩ hg
  clear hg
  rintro ⟨own, n, xs, e, i⟩ hg
  simp only at hg
  simp only [ckmR]
  obtain ⟨h0, h1, h2⟩ := hg
  by_cases hi : i < (n : Int)
  · have hd : decide (i < (n : Int)) = true := by simpa using hi
    have hb : boundsI i n = true := by simp [boundsI, h0, hi]
    rw [hd, hb]
    left
    have hw : W (i + 1) = i + 1 := W_in (by omega)
    refine ⟨⟨own, n, xs, leastN e (atO xs i).ck, i + 1⟩, by rw [hw], ⟨by simp only; omega, h1, h2⟩, by simp only; omega, ?_⟩
    unfold ckmO
    simp only
    rw [drop_at h0 (by omega)]
    rfl
  · have hd : decide (i < (n : Int)) = false := by simpa using hi
    rw [hd]
    right
    have hn : xs.drop i.toNat = [] := List.drop_eq_nil_of_le (by omega)
    unfold ckmO
    simp only [hn]
    exact ⟨rfl, by simp⟩
def ckmS (st : St) : Option (Ans (Exit × St)) :=
  match sized st 22 1, tAt st 3, tAt st 9, tAt st 10, tAt st 11, st.mem with
  | true, some (.int .i64 e), some (.slice (some ⟨0, 0, some 0⟩) n 12), some (.int .i64 ln), some (.int .i64 i), [.rows own true 12 n2 row] => some (.br (Nat.beq n n2 && (okOps n row && (decide ((n : Int) = ln) && (decide (0 ≤ i) && (decide ((n : Int) ≤ 4611686018427387904)))))) (.out (.exit 0, stOf 22 [(3, vI (leastL ((opsOf n row).drop i.toNat) e))] [.rows own true 12 n (opRow (opsOf n row))])) .fail)
  | _, _, _, _, _, _ => none
theorem ckmK {st : St} {ans : Ans (Exit × St)} {e_ : Exit} {s_ : St} (h : ckmS st = some ans) (hr : ans.res = some (e_, s_)) : LoopSem Try.prog 1 (ckmX Try.prog) st e_ s_ := by
  unfold ckmS at h
  split at h
  · rename_i e n ln i own n2 row hb hs0 hs1 hs2 hs3 hm
    simp only [Option.some.injEq] at h
    subst h
    rcases Ans.br_some hr with ⟨hc, hr1⟩ | ⟨_, hr1⟩
    · clear hr
      simp only [Bool.and_eq_true] at hc
      obtain ⟨ht0, ht1, ht2, ht3, ht4⟩ := hc
      have ht0 := beq_len ht0
      subst ht0
      have ht2 : (n : Int) = ln := by simpa using ht2
      subst ht2
      have hinv : 0 ≤ i ∧ (n : Int) ≤ 4611686018427387904 ∧ (opsOf n row).length = n := by
        exact ⟨by simpa using ht3, by simpa using ht4, opsOf_length n row⟩
      have hk := stOf_keep hb [(3, vI e), (9, .slice (some ⟨0, 0, some 0⟩) n 12), (10, vI n), (11, vI i)] (by
        intro x hx
        simp only [List.mem_cons, List.not_mem_nil, or_false] at hx
        rcases hx with rfl | rfl | rfl | rfl
        · exact hs0
        · exact hs1
        · exact hs2
        · exact hs3) hm
      have key := ckmL own n (opsOf n row) e i hinv
      unfold ckmH at key
      have key := LoopSem.like (m := [.rows own true 12 n row]) key ⟨.rows (ops_like ht1), trivial⟩
      have key : LoopSem Try.prog 1 (ckmX Try.prog) (stOf 22 [(3, vI e), (9, .slice (some ⟨0, 0, some 0⟩) n 12), (10, vI n), (11, vI i)] [.rows own true 12 n row]) _ _ := key
      rw [← hk] at key
      have key := LoopSem.clean key
      unfold ckmO at key
      simp only [Ans.res, Option.some.injEq, Prod.mk.injEq] at hr1
      obtain ⟨rfl, rfl⟩ := hr1
      exact key
    · simp [Ans.res] at hr1
  · cases h
end Go.Proofs.Ytmpkkmhielkggaa


namespace Go.Proofs.Ytmpkkmhielkggaa
open Go Vx
theorem opsOf_row {xs : List O3} {n : Nat} (h : xs.length = n) : opsOf n (opRow xs) = xs := by subst h; exact opsOf_opRow xs
theorem beq_self (n : Nat) : Nat.beq n n = true := Nat.beq_refl n
def Ckm (P : Program) : Cx := (CCg P).addLB 36 5 1 ckmS
theorem okm : CxOk (Ckm Try.prog) := Cx.addLB_ok okCg ckmX_eq fun _ _ _ _ h hr => ckmK h hr
def ckMaps (xs : List O3) : Int := if (xs.length : Int) > 192 then 2 else leastL xs 0

/-- group.checkMaps -/
theorem ckmsE0 : (exFunA ((Ckm Try.prog).at 36) 60 Try.f36 [.slice none 0 0] []).res = some (vI 0, []) := by kernel_rfl
theorem ckmsE1 (own : Bool) (n : Nat) (xs : List O3) : (exFunA ((Ckm Try.prog).at 36) 60 Try.f36 [.slice (some ⟨0, 0, some 0⟩) n 12] [.rows own true 12 n (opRow xs)]).res = (match decide ((n : Int) > 192) with
    | true => some (vI 2, [.rows own true 12 n (opRow xs)])
    | false => gd (Nat.beq n n && (okOps n (opRow xs) && (decide ((n : Int) = (n : Int)) && (decide ((0 : Int) ≤ 0) && decide ((n : Int) ≤ 4611686018427387904))))) (some (vI (leastL ((opsOf n (opRow xs)).drop (0 : Int).toNat) 0), [.rows own true 12 n (opRow (opsOf n (opRow xs)))]))) := by kernel_rfl
theorem ckmsE (own : Bool) (n : Nat) (xs : List O3) (hx : xs.length = n) : (exFunA ((Ckm Try.prog).at 36) 60 Try.f36 [.slice (some ⟨0, 0, some 0⟩) n 12] [.rows own true 12 n (opRow xs)]).res = some (vI (ckMaps xs), [.rows own true 12 n (opRow xs)]) := by
  rw [ckmsE1]
  unfold ckMaps
  by_cases h : (n : Int) > 192
  · rw [decide_eq_true h, if_pos (by omega)]
  · have hb : decide ((n : Int) ≤ 4611686018427387904) = true := by simp; omega
    rw [decide_eq_false h, if_neg (by omega), opsOf_row hx, hb]
    simp [okOps_opRow, gd]
def ckmsF : List Value → Mem → Option (Ans (Value × Mem))
  | [.slice none 0 0], [] => some (.out (vI 0, []))
  | [.slice (some ⟨0, 0, some 0⟩) n 12], [.rows own true 12 n2 row] => some (.br (Nat.beq n n2 && okOps n row) (.out (vI (ckMaps (opsOf n row)), [.rows own true 12 n (opRow (opsOf n row))])) .fail)
  | _, _ => none
def Cckm (P : Program) : Cx := (Ckm P).addF 36 ckmsF
theorem okckm : CxOk (Cckm Try.prog) := Cx.addF_ok okm fun args m ans v m' h hr => by
  unfold ckmsF at h
  split at h
  · simp only [Option.some.injEq] at h
    subst h
    simp only [Ans.res, Option.some.injEq, Prod.mk.injEq] at hr
    obtain ⟨rfl, rfl⟩ := hr
    exact exFunA_ok (n := 60) okm Try.func36 (by kernel_rfl) ckmsE0
  · rename_i n own n2 row
    simp only [Option.some.injEq] at h
    subst h
    rcases Ans.br_some hr with ⟨hc, hr1⟩ | ⟨_, hr1⟩
    · clear hr
      simp only [Bool.and_eq_true] at hc
      obtain ⟨h0, h1⟩ := hc
      have h0 := beq_len h0
      subst h0
      simp only [Ans.res, Option.some.injEq, Prod.mk.injEq] at hr1
      obtain ⟨rfl, rfl⟩ := hr1
      exact (exFunA_ok (n := 60) okm Try.func36 (by kernel_rfl) (ckmsE own n (opsOf n row) (opsOf_length n row))).like ⟨.rows (ops_like h1), trivial⟩
    · simp [Ans.res] at hr1
  · cases h
end Go.Proofs.Ytmpkkmhielkggaa


namespace Go.Proofs.Ytmpkkmhielkggaa
open Go Vx
/-- The numbers of a map. -/
def key (o : O3) : List Int := [o.r.a, o.r.b, o.r.c, o.r.d, o.r.e, o.r.f, o.r.g, o.r.h, o.r.i, o.t.x, o.t.y, o.t.z]
theorem key_inj {a b : O3} (h : key a = key b) : a = b := by
  cases a with | mk r t => cases b with | mk r' t' => cases r; cases t; cases r'; cases t'; simp [key] at h; simp [h]
theorem key_of : ∀ {xs : List Int}, xs.length = 12 → ∃ o, xs = key o
  | [a, b, c, d, e, f, g, h, i, x, y, z], _ => ⟨⟨⟨a, b, c, d, e, f, g, h, i⟩, ⟨x, y, z⟩⟩, rfl⟩
theorem eqOp (a b : O3) : eqCells Try.prog 9 34 a.cells b.cells = some (a.eqB b) := by kernel_rfl
theorem chkOp (a : O3) (b : Bool) (w : World) : (Instr.checkKey b 10000 34 (.agg a.cells.toArray)).run Try.prog w = .ok () w := by kernel_rfl
theorem keyOk : KeyOk Try.prog 34 12 := by
  refine ⟨fun xs ys hx hy w => ?_, fun xs hx b w => ?_, Option.isSome_iff_exists.1 (by kernel_rfl)⟩
  · obtain ⟨a, rfl⟩ := key_of hx
    obtain ⟨b, rfl⟩ := key_of hy
    have := equal_run (P := Try.prog) (t := 34) (xs := a.cells.toArray) (ys := b.cells.toArray) (by kernel_rfl) (eqOp a b) w
    have e : decide (key b = key a) = a.eqB b := by
      rw [Bool.eq_iff_iff, decide_eq_true_eq, O3.eqB_iff]
      exact ⟨fun h => (key_inj h).symm, fun h => by rw [h]⟩
    rw [e]
    exact this
  · obtain ⟨a, rfl⟩ := key_of hx
    exact chkOp a b w
def Ck (P : Program) : Cx := (Cckm P).addK 34 12
theorem okk : CxOk (Ck Try.prog) := Cx.addK_ok okckm keyOk
end Go.Proofs.Ytmpkkmhielkggaa


namespace Go.Proofs.Ytmpkkmhielkggaa
open Go Vx
def strucB (a n k : Nat) : Blk := .cells true 0 [.slice (some ⟨a, 0, some 0⟩) n 12, .map (some 2), .slice (some ⟨3, 0, some 0⟩) k 12]
def tcX (P : Program) : Code := (loopsOf P 74 10).headD .skip
theorem tcX_eq : loopsOf Try.prog 74 10 = [tcX Try.prog] := by kernel_rfl
/-- Ahead of the first round. -/
def tcE (n : Nat) (xs : List O3) (es : List (List Int × Int)) (mm bb : O3) (k : Nat) (ms : List O3) (f : O3) (p : Nat) (i : Int) : St := stOf 66 [(0, .pointer (some ⟨0, 0, none⟩)), (9, .pointer (some ⟨6, 0, none⟩)), (48, .slice (some ⟨1, 0, some 0⟩) p 12), (49, vI p), (50, vI i)] [strucB 1 n k, .rows true true 12 n (opRow xs), .mp true 12 es, .rows true true 12 k (opRow ms), .cells true 0 mm.cells, .cells true 0 bb.cells, .cells true 0 f.cells, .cells true 0 []]
/-- Behind a round. -/
def tcB (n0 : Nat) (xs0 : List O3) (n : Nat) (row : Nat → List Value) (es : List (List Int × Int)) (k : Nat) (ms : List O3) (f : O3) (p : Nat) (i : Int) : St := stOf 66 [(0, .pointer (some ⟨0, 0, none⟩)), (9, .pointer (some ⟨4, 0, none⟩)), (48, .slice (some ⟨1, 0, some 0⟩) p 12), (49, vI p), (50, vI i)] [strucB 5 n k, .view true 12 n0 (opRow xs0), .mp true 12 es, .rows true true 12 k (opRow ms), .cells true 0 f.cells, .grow true 12 n row]
def tcM0 (n : Nat) (xs : List O3) (es : List (List Int × Int)) (k : Nat) (ms : List O3) : Mem := [strucB 1 n k, .rows true true 12 n (opRow xs), .mp true 12 es, .rows true true 12 k (opRow ms), .no]
def tcM1 (n : Nat) (xs : List O3) (es : List (List Int × Int)) (k : Nat) (ms : List O3) : Mem := [strucB 4 n k, .gone, .mp true 12 es, .rows true true 12 k (opRow ms), .rows true true 12 n (opRow xs)]
def fits (n : Nat) : Bool := Nat.beq n n && (decide ((n + 1) * 96 ≤ 2 ^ 47) && decide (n + 1 ≤ 2 ^ 62))
theorem tcRE (n : Nat) (xs : List O3) (es : List (List Int × Int)) (mm bb : O3) (k : Nat) (ms : List O3) (f : O3) (p : Nat) (i : Int) : roundR ((Ck Try.prog).into 74 4) 40 (tcX Try.prog) [0, 9, 48, 49, 50] [8] [.fix 0, .fix 1, .fix 2, .fix 3, .slot 9, .cellN 0 0 4] [.fix 0, .fix 1, .fix 2, .fix 3, .cellN 0 0 4] (tcE n xs es mm bb k ms f p i) =
    (match decide (i < (p : Int)) with
    | true => match boundsI i p with
      | true => match f.mulE (atO xs i) != 0 with
        | true => some (.ret, stOf 66 [(8, .bool false)] (tcM0 n xs es k ms))
        | false => match fits n with
          | true => some (.normal, tcB n xs (n + 1) (catR n (opRow xs) (chop 12 0 (f.mulF (atO xs i)).cells)) (mPut (key (f.mulF (atO xs i))) 0 es) k ms f p (W (i + 1)))
          | false => none
      | false => none
    | false => some (.exit 0, stOf 66 [] (tcM0 n xs es k ms))) := by kernel_rfl
theorem tcRB (n0 : Nat) (xs0 : List O3) (n : Nat) (xs : List O3) (es : List (List Int × Int)) (k : Nat) (ms : List O3) (f : O3) (p : Nat) (i : Int) : roundR ((Ck Try.prog).into 74 4) 40 (tcX Try.prog) [0, 9, 48, 49, 50] [8] [.fix 0, .fix 1, .fix 2, .fix 3, .slot 9, .cellN 0 0 4] [.fix 0, .fix 1, .fix 2, .fix 3, .cellN 0 0 4] (tcB n0 xs0 n (opRow xs) es k ms f p i) =
    (match decide (i < (p : Int)) with
    | true => match boundsI i p with
      | true => match f.mulE (atO xs0 i) != 0 with
        | true => some (.ret, stOf 66 [(8, .bool false)] (tcM1 n xs es k ms))
        | false => match fits n with
          | true => some (.normal, tcB n0 xs0 (n + 1) (catR n (opRow xs) (chop 12 0 (f.mulF (atO xs0 i)).cells)) (mPut (key (f.mulF (atO xs0 i))) 0 es) k ms f p (W (i + 1)))
          | false => none
      | false => none
    | false => some (.exit 0, stOf 66 [] (tcM1 n xs es k ms))) := by kernel_rfl
end Go.Proofs.Ytmpkkmhielkggaa


namespace Go.Proofs.Ytmpkkmhielkggaa
open Go Vx
abbrev ES := List (List Int × Int)
/-- Each map of a list, then f: appended to the maps, until one is too great. -/
def cosL (f : O3) : List O3 → List O3 → ES → Bool × List O3 × ES
  | [], xs, es => (true, xs, es)
  | a :: l, xs, es => match f.mulE a != 0 with
    | true => (false, xs, es)
    | false => cosL f l (xs ++ [f.mulF a]) (mPut (key (f.mulF a)) 0 es)
theorem cosL_len (f : O3) : ∀ (l xs : List O3) (es : ES), xs.length ≤ (cosL f l xs es).2.1.length
  | [], xs, es => Nat.le_refl _
  | a :: l, xs, es => by
    simp only [cosL]
    cases f.mulE a != 0 with
    | true => exact Nat.le_refl _
    | false => have := cosL_len f l (xs ++ [f.mulF a]) (mPut (key (f.mulF a)) 0 es); simp at this ⊢; omega
structure tcG where
  (b : Bool) (n0 : Nat) (xs0 : List O3) (n : Nat) (xs : List O3) (es : ES) (mm bb : O3) (k : Nat) (ms : List O3) (f : O3) (p : Nat) (i : Int)
def tcH (g : tcG) : St := match g.b with
  | false => tcE g.n g.xs g.es g.mm g.bb g.k g.ms g.f g.p g.i
  | true => tcB g.n0 g.xs0 g.n (opRow g.xs) g.es g.k g.ms g.f g.p g.i
def tcInv (g : tcG) : Prop := g.xs0.length = g.n0 ∧ g.xs.length = g.n ∧ 1 ≤ g.p ∧ g.p ≤ g.n0 ∧ 0 ≤ g.i ∧ g.i ≤ (g.p : Int) ∧ (g.n : Int) + (g.p - g.i) ≤ 192 ∧ (g.b = false → g.i = 0 ∧ g.n = g.n0 ∧ g.xs = g.xs0) ∧ (g.b = true → g.n0 < g.n) ∧ g.n0 ≤ g.n
def tcRes (g : tcG) : Bool × List O3 × ES := cosL g.f ((g.xs0.take g.p).drop g.i.toNat) g.xs g.es
def tcMem (n0 : Nat) (xs0 : List O3) (r : Bool × List O3 × ES) (k : Nat) (ms : List O3) : Mem := match Nat.blt n0 r.2.1.length with
  | true => tcM1 r.2.1.length r.2.1 r.2.2 k ms
  | false => tcM0 n0 xs0 r.2.2 k ms
def tcO (g : tcG) : Exit × St := match (tcRes g).1 with
  | true => (.exit 0, stOf 66 [] (tcMem g.n0 g.xs0 (tcRes g) g.k g.ms))
  | false => (.ret, stOf 66 [(8, .bool false)] (tcMem g.n0 g.xs0 (tcRes g) g.k g.ms))
theorem take_at {xs : List O3} {p : Nat} {i : Int} (h0 : 0 ≤ i) (h : i < (p : Int)) (hp : p ≤ xs.length) : (xs.take p).drop i.toNat = atO xs i :: (xs.take p).drop (i + 1).toNat := by
  have hl : (xs.take p).length = p := by simp; omega
  rw [drop_at h0 (by omega)]
  congr 1
  unfold atO
  rw [List.getElem?_take, if_pos (by omega)]
theorem fits_ok {n : Nat} (h : n ≤ 1000) : fits n = true := by
  unfold fits
  rw [Nat.beq_refl]
  simp; omega
theorem tcL (g : tcG) (hg : tcInv g) : LoopSem Try.prog 4 (tcX Try.prog) (tcH g) (tcO g).1 (tcO g).2 := by
  refine loop_rule2 (C := Ck Try.prog) okk (f := 74) (B := 4) (loopsOf_in (k := 10) tcX_eq) 40 [0, 9, 48, 49, 50] [8] [.fix 0, .fix 1, .fix 2, .fix 3, .slot 9, .cellN 0 0 4] [.fix 0, .fix 1, .fix 2, .fix 3, .cellN 0 0 4] tcH (fun g => (g.p - g.i).toNat) tcInv tcO ?_ g hg
  clear hg g
  rintro ⟨b, n0, xs0, n, xs, es, mm, bb, k, ms, f, p, i⟩ hg
  unfold tcInv at hg
  simp only at hg
  obtain ⟨h1, h2, h3, h4, h5, h6, h7, h8, h9, h10⟩ := hg
  by_cases hi : i < (p : Int)
  · have hd : decide (i < (p : Int)) = true := by simpa using hi
    have hb : boundsI i p = true := by simp [boundsI, h5, hi]
    have hw : W (i + 1) = i + 1 := W_in (by omega)
    have hf : fits n = true := fits_ok (by omega)
    have htk := take_at (xs := xs0) h5 hi (by omega)
    cases he : f.mulE (atO xs0 i) != 0 with
    | true =>
      right
      have hres : tcRes ⟨b, n0, xs0, n, xs, es, mm, bb, k, ms, f, p, i⟩ = (false, xs, es) := by unfold tcRes; simp only [htk, cosL, he]
      cases b with
      | false =>
        obtain ⟨rfl, rfl, rfl⟩ := h8 rfl
        refine ⟨stOf 66 [(8, .bool false)] (tcM0 n xs es k ms), ?_, ?_, ?_⟩
        · unfold tcH
          simp only [tcRE, hd, hb, he]
          unfold tcO
          simp only [hres]
        · unfold tcO tcMem
          simp only [hres, h2, blt_ff (Nat.lt_irrefl n)]
          exact StLike.refl _
        · unfold tcO; simp [hres]
      | true =>
        have hlt := h9 rfl
        refine ⟨stOf 66 [(8, .bool false)] (tcM1 n xs es k ms), ?_, ?_, ?_⟩
        · unfold tcH
          simp only [tcRB, hd, hb, he]
          unfold tcO
          simp only [hres]
        · unfold tcO tcMem
          simp only [hres, h2, show Nat.blt n0 n = true by simpa [Nat.blt_eq] using hlt]
          exact StLike.refl _
        · unfold tcO; simp [hres]
    | false =>
      left
      refine ⟨⟨true, n0, xs0, n + 1, xs ++ [f.mulF (atO xs0 i)], mPut (key (f.mulF (atO xs0 i))) 0 es, mm, bb, k, ms, f, p, i + 1⟩, tcB n0 xs0 (n + 1) (catR n (opRow xs) (chop 12 0 (f.mulF (atO xs0 i)).cells)) (mPut (key (f.mulF (atO xs0 i))) 0 es) k ms f p (i + 1), ?_, ?_, ?_, ?_, ?_⟩
      · cases b with
        | false =>
          obtain ⟨rfl, rfl, rfl⟩ := h8 rfl
          unfold tcH
          simp only [tcRE, hd, hb, he, hf, hw]
        | true =>
          unfold tcH
          simp only [tcRB, hd, hb, he, hf, hw]
      · exact ⟨rfl, .refl _, .refl _, .refl _, .refl _, .refl _, like_ng h2 _, trivial⟩
      · unfold tcInv
        simp only
        refine ⟨h1, by simp [h2], h3, h4, by omega, by omega, by omega, (fun h => by cases h), fun _ => ?_, by omega⟩
        cases b with
        | false => obtain ⟨_, e, _⟩ := h8 rfl; omega
        | true => have := h9 rfl; omega
      · simp only; omega
      · have hres : tcRes ⟨b, n0, xs0, n, xs, es, mm, bb, k, ms, f, p, i⟩ = tcRes ⟨true, n0, xs0, n + 1, xs ++ [f.mulF (atO xs0 i)], mPut (key (f.mulF (atO xs0 i))) 0 es, mm, bb, k, ms, f, p, i + 1⟩ := by unfold tcRes; simp only [htk, cosL, he]
        unfold tcO
        simp only [hres, tcMem]
  · have hd : decide (i < (p : Int)) = false := by simpa using hi
    have hip : i = (p : Int) := by omega
    right
    have hn : (xs0.take p).drop i.toNat = [] := List.drop_eq_nil_of_le (by simp; omega)
    have hres : tcRes ⟨b, n0, xs0, n, xs, es, mm, bb, k, ms, f, p, i⟩ = (true, xs, es) := by unfold tcRes; simp only [hn, cosL]
    cases b with
    | false =>
      obtain ⟨e, _, _⟩ := h8 rfl
      omega
    | true =>
      have hlt := h9 rfl
      refine ⟨stOf 66 [] (tcM1 n xs es k ms), ?_, ?_, ?_⟩
      · unfold tcH
        simp only [tcRB, hd]
        unfold tcO
        simp only [hres]
      · unfold tcO tcMem
        simp only [hres, h2, show Nat.blt n0 n = true by simpa [Nat.blt_eq] using hlt]
        exact StLike.refl _
      · unfold tcO; simp [hres]
end Go.Proofs.Ytmpkkmhielkggaa


namespace Go.Proofs.Ytmpkkmhielkggaa
open Go Vx
def tcTest (n n2 k k2 p : Nat) (row row2 : Nat → List Value) (lp i : Int) : Bool := Nat.beq n n2 && (okOps n row && (Nat.beq k k2 && (okOps k row2 && (decide ((p : Int) = lp) && (decide (i = 0) && (Nat.ble 1 p && (Nat.ble p n && decide (n + p ≤ 192))))))))
def tcS (st : St) : Option (Ans (Exit × St)) :=
  match sized st 66 8, tAt st 0, tAt st 9, tAt st 48, tAt st 49, tAt st 50, st.mem with
  | true, some (.pointer (some ⟨0, 0, none⟩)), some (.pointer (some ⟨6, 0, none⟩)), some (.slice (some ⟨1, 0, some 0⟩) p 12), some (.int .i64 lp), some (.int .i64 i), [.cells true 0 cs, .rows true true 12 n2 row, .mp true 12 es, .rows true true 12 k2 row2, .cells true 0 cm, .cells true 0 cb, .cells true 0 cf, .cells true 0 []] =>
    match cs, opCells cm, opCells cb, opCells cf with
    | [.slice (some ⟨1, 0, some 0⟩) n 12, .map (some 2), .slice (some ⟨3, 0, some 0⟩) k 12], some _, some _, some f => some (.br (tcTest n n2 k k2 p row row2 lp i) (.br (cosL f ((opsOf n row).take p) (opsOf n row) es).1 (.br (Nat.blt n (cosL f ((opsOf n row).take p) (opsOf n row) es).2.1.length) (.out (.exit 0, stOf 66 [] (tcM1 (cosL f ((opsOf n row).take p) (opsOf n row) es).2.1.length (cosL f ((opsOf n row).take p) (opsOf n row) es).2.1 (cosL f ((opsOf n row).take p) (opsOf n row) es).2.2 k (opsOf k row2)))) (.out (.exit 0, stOf 66 [] (tcM0 n (opsOf n row) (cosL f ((opsOf n row).take p) (opsOf n row) es).2.2 k (opsOf k row2))))) (.br (Nat.blt n (cosL f ((opsOf n row).take p) (opsOf n row) es).2.1.length) (.out (.ret, stOf 66 [(8, .bool false)] (tcM1 (cosL f ((opsOf n row).take p) (opsOf n row) es).2.1.length (cosL f ((opsOf n row).take p) (opsOf n row) es).2.1 (cosL f ((opsOf n row).take p) (opsOf n row) es).2.2 k (opsOf k row2)))) (.out (.ret, stOf 66 [(8, .bool false)] (tcM0 n (opsOf n row) (cosL f ((opsOf n row).take p) (opsOf n row) es).2.2 k (opsOf k row2)))))) .fail)
    | _, _, _, _ => none
  | _, _, _, _, _, _, _ => none
theorem tcK {st : St} {ans : Ans (Exit × St)} {e_ : Exit} {s_ : St} (h : tcS st = some ans) (hr : ans.res = some (e_, s_)) : LoopSem Try.prog 4 (tcX Try.prog) st e_ s_ := by
  unfold tcS at h
  split at h
  · rename_i p lp i cs n2 row es k2 row2 cm cb cf hb hs0 hs1 hs2 hs3 hs4 hm
    split at h
    rotate_left
    · cases h
    rename_i n k m b f hm0 hm1 hm2
    rw [opCells_spec hm0, opCells_spec hm1, opCells_spec hm2] at hm
    simp only [Option.some.injEq] at h
    subst h
    rcases Ans.br_some hr with ⟨hc, hr1⟩ | ⟨_, hr1⟩
    · clear hr
      unfold tcTest at hc
      simp only [Bool.and_eq_true, decide_eq_true_eq] at hc
      obtain ⟨c1, c2, c3, c4, c5, c6, c7, c8, c9⟩ := hc
      have c1 := beq_len c1
      subst c1
      have c3 := beq_len c3
      subst c3
      subst c5
      subst c6
      have c7 := Nat.le_of_ble_eq_true c7
      have c8 := Nat.le_of_ble_eq_true c8
      have hk := stOf_keep hb [(0, .pointer (some ⟨0, 0, none⟩)), (9, .pointer (some ⟨6, 0, none⟩)), (48, .slice (some ⟨1, 0, some 0⟩) p 12), (49, vI p), (50, vI 0)] (by
        intro x hx
        simp only [List.mem_cons, List.not_mem_nil, or_false] at hx
        rcases hx with rfl | rfl | rfl | rfl | rfl
        · exact hs0
        · exact hs1
        · exact hs2
        · exact hs3
        · exact hs4) hm
      have key := tcL ⟨false, n, opsOf n row, n, opsOf n row, es, m, b, k, opsOf k row2, f, p, 0⟩ (by
        unfold tcInv
        simp only
        exact ⟨opsOf_length n row, opsOf_length n row, c7, c8, by omega, by omega, by omega, fun _ => ⟨trivial, trivial, trivial⟩, (fun h => by cases h), Nat.le_refl _⟩)
      have key := LoopSem.like (tm := (tcE n (opsOf n row) es m b k (opsOf k row2) f p 0).tmps) (m := st.mem) (m2 := (tcE n (opsOf n row) es m b k (opsOf k row2) f p 0).mem) key (by
        rw [hm]
        exact ⟨.refl _, .rows (ops_like c2), .refl _, .rows (ops_like c4), .refl _, .refl _, .refl _, .refl _, trivial⟩)
      have e0 : (⟨(tcE n (opsOf n row) es m b k (opsOf k row2) f p 0).tmps, st.mem⟩ : St) = ⟨keepL [0, 9, 48, 49, 50] 0 st.tmps, st.mem⟩ := by
        have := congrArg St.tmps hk
        rw [show keepL [0, 9, 48, 49, 50] 0 st.tmps = (tcE n (opsOf n row) es m b k (opsOf k row2) f p 0).tmps from this]
      rw [e0] at key
      have key := LoopSem.clean key
      have hres : tcRes ⟨false, n, opsOf n row, n, opsOf n row, es, m, b, k, opsOf k row2, f, p, 0⟩ = (cosL f ((opsOf n row).take p) (opsOf n row) es) := rfl
      unfold tcO tcMem at key
      simp only [hres] at key
      rcases Ans.br_some hr1 with ⟨hq, hr2⟩ | ⟨hq, hr2⟩
      · simp only [hq] at key
        rcases Ans.br_some hr2 with ⟨hq2, hr3⟩ | ⟨hq2, hr3⟩
        · simp only [hq2] at key
          simp only [Ans.res, Option.some.injEq, Prod.mk.injEq] at hr3
          obtain ⟨rfl, rfl⟩ := hr3
          exact key
        · simp only [hq2] at key
          simp only [Ans.res, Option.some.injEq, Prod.mk.injEq] at hr3
          obtain ⟨rfl, rfl⟩ := hr3
          exact key
      · simp only [hq] at key
        rcases Ans.br_some hr2 with ⟨hq2, hr3⟩ | ⟨hq2, hr3⟩
        · simp only [hq2] at key
          simp only [Ans.res, Option.some.injEq, Prod.mk.injEq] at hr3
          obtain ⟨rfl, rfl⟩ := hr3
          exact key
        · simp only [hq2] at key
          simp only [Ans.res, Option.some.injEq, Prod.mk.injEq] at hr3
          obtain ⟨rfl, rfl⟩ := hr3
          exact key
    · simp [Ans.res] at hr1
  · cases h
def Ctc (P : Program) : Cx := (Ck P).addLB 74 10 4 tcS
theorem oktc : CxOk (Ctc Try.prog) := Cx.addLB_ok okk tcX_eq fun _ _ _ _ h hr => tcK h hr
def spanM (n : Nat) (xs : List O3) (es : ES) (k : Nat) (ms : List O3) : Mem := [strucB 1 n k, .rows true true 12 n (opRow xs), .mp true 12 es, .rows true true 12 k (opRow ms)]
def cosR (n k : Nat) (xs ms : List O3) (es : ES) (f : O3) (p : Nat) : Option (Value × Mem) := gd (tcTest n n k k p (opRow xs) (opRow ms) p 0)
  (match (cosL f ((opsOf n (opRow xs)).take p) (opsOf n (opRow xs)) es).1 with
  | true => match Nat.blt n (cosL f ((opsOf n (opRow xs)).take p) (opsOf n (opRow xs)) es).2.1.length with
    | true => some (.bool true, tcM1 (cosL f ((opsOf n (opRow xs)).take p) (opsOf n (opRow xs)) es).2.1.length (cosL f ((opsOf n (opRow xs)).take p) (opsOf n (opRow xs)) es).2.1 (cosL f ((opsOf n (opRow xs)).take p) (opsOf n (opRow xs)) es).2.2 k (opsOf k (opRow ms)))
    | false => some (.bool true, tcM0 n (opsOf n (opRow xs)) (cosL f ((opsOf n (opRow xs)).take p) (opsOf n (opRow xs)) es).2.2 k (opsOf k (opRow ms)))
  | false => match Nat.blt n (cosL f ((opsOf n (opRow xs)).take p) (opsOf n (opRow xs)) es).2.1.length with
    | true => some (.bool false, tcM1 (cosL f ((opsOf n (opRow xs)).take p) (opsOf n (opRow xs)) es).2.1.length (cosL f ((opsOf n (opRow xs)).take p) (opsOf n (opRow xs)) es).2.1 (cosL f ((opsOf n (opRow xs)).take p) (opsOf n (opRow xs)) es).2.2 k (opsOf k (opRow ms)))
    | false => some (.bool false, tcM0 n (opsOf n (opRow xs)) (cosL f ((opsOf n (opRow xs)).take p) (opsOf n (opRow xs)) es).2.2 k (opsOf k (opRow ms))))
theorem tcF1 (m b : O3) (q : Int) (n : Nat) (xs : List O3) (es : ES) (k : Nat) (ms : List O3) : exT ((Ctc Try.prog).at 74) 60 Try.f74 [.pointer (some ⟨0, 0, none⟩), m.v, b.v, vI q] (spanM n xs es k ms) [.fix 0, .fix 1, .fix 2, .fix 3, .cellN 0 0 4] =
    (match m.mulE b != 0 with
    | true => some (.bool false, tcM0 n xs es k ms)
    | false => match mHas (key (m.mulF b)) es with
      | true => some (.bool true, tcM0 n xs es k ms)
      | false => match decide (W ((n : Int) + q) > 192) with
        | true => some (.bool false, tcM0 n xs es k ms)
        | false => match leI q n with
          | true => cosR n k xs ms es (m.mulF b) q.toNat
          | false => none) := by kernel_rfl
end Go.Proofs.Ytmpkkmhielkggaa


namespace Go.Proofs.Ytmpkkmhielkggaa
open Go Vx
theorem cosL_true (f : O3) : ∀ (l xs : List O3) (es : ES), (cosL f l xs es).1 = true → (cosL f l xs es).2.1.length = xs.length + l.length
  | [], xs, es, _ => rfl
  | a :: l, xs, es, h => by
    simp only [cosL] at h ⊢
    cases he : f.mulE a != 0 with
    | true => rw [he] at h; cases h
    | false =>
      rw [he] at h
      rw [cosL_true f l _ _ h]
      simp; omega
/-- What is told of a call, put together. -/
theorem tcSem (m b : O3) (q : Int) (n : Nat) (xs : List O3) (es : ES) (k : Nat) (ms : List O3) (hx : xs.length = n) (hm : ms.length = k) (h0 : 0 < q) (h1 : q ≤ (n : Int)) (h2 : n ≤ 192) {v : Value} {m' : Mem}
    (h : Ans.res (.br (m.mulE b != 0) (.out (.bool false, goneAll 4)) (.br (mHas (key (m.mulF b)) es) (.out (.bool true, tcM0 n (xs) es k (ms))) (.br (decide ((n : Int) + q > 192)) (.out (.bool false, goneAll 4)) (.br (cosL (m.mulF b) ((xs).take q.toNat) (xs) es).1 (.out (.bool true, tcM1 (cosL (m.mulF b) ((xs).take q.toNat) (xs) es).2.1.length (cosL (m.mulF b) ((xs).take q.toNat) (xs) es).2.1 (cosL (m.mulF b) ((xs).take q.toNat) (xs) es).2.2 k (ms))) (.out (.bool false, goneAll 4)))))) = some (v, m')) : MemSem Try.prog 74 [.pointer (some ⟨0, 0, none⟩), m.v, b.v, vI q] (spanM n xs es k ms) v m' := by
  have hE := tcF1 m b q n xs es k ms
  have sem : ∀ {v : Value} {m' : Mem}, exT ((Ctc Try.prog).at 74) 60 Try.f74 [.pointer (some ⟨0, 0, none⟩), m.v, b.v, vI q] (spanM n xs es k ms) [.fix 0, .fix 1, .fix 2, .fix 3, .cellN 0 0 4] = some (v, m') → MemSem Try.prog 74 [.pointer (some ⟨0, 0, none⟩), m.v, b.v, vI q] (spanM n xs es k ms) v m' := fun hh => exT_ok oktc Try.func74 (by kernel_rfl) hh
  have hlen : (spanM n xs es k ms).length = 4 := rfl
  rcases Ans.br_some h with ⟨hq, h⟩ | ⟨hq, h⟩
  · rw [hq] at hE
    simp only [Ans.res, Option.some.injEq, Prod.mk.injEq] at h
    obtain ⟨rfl, rfl⟩ := h
    exact (sem hE).forget rfl
  · rw [hq] at hE
    rcases Ans.br_some h with ⟨hq, h⟩ | ⟨hq, h⟩
    · simp only [hq] at hE
      simp only [Ans.res, Option.some.injEq, Prod.mk.injEq] at h
      obtain ⟨rfl, rfl⟩ := h
      exact sem hE
    · simp only [hq] at hE
      have hw : W ((n : Int) + q) = (n : Int) + q := W_in (by omega)
      rw [hw] at hE
      rcases Ans.br_some h with ⟨hq, h⟩ | ⟨hq, h⟩
      · simp only [hq] at hE
        simp only [Ans.res, Option.some.injEq, Prod.mk.injEq] at h
        obtain ⟨rfl, rfl⟩ := h
        exact (sem hE).forget rfl
      · simp only [hq] at hE
        have hq' : ¬ ((n : Int) + q > 192) := by simpa using hq
        have hle : leI q n = true := by simp [leI]; omega
        rw [hle] at hE
        unfold cosR tcTest at hE
        rw [opsOf_row hx, opsOf_row hm, okOps_opRow, okOps_opRow, Nat.beq_refl, Nat.beq_refl, show Nat.ble 1 q.toNat = true by rw [Nat.ble_eq]; omega, show Nat.ble q.toNat n = true by rw [Nat.ble_eq]; omega, show decide (n + q.toNat ≤ 192) = true by simp; omega] at hE
        simp only [decide_true, Bool.and_self, gd] at hE
        rcases Ans.br_some h with ⟨hq2, h⟩ | ⟨hq2, h⟩
        · have hl := cosL_true _ _ _ _ hq2
          have hbl : Nat.blt n (cosL (m.mulF b) (xs.take q.toNat) xs es).2.1.length = true := by
            rw [hl, Nat.blt_eq]; simp; omega
          simp only [hq2, hbl] at hE
          simp only [Ans.res, Option.some.injEq, Prod.mk.injEq] at h
          obtain ⟨rfl, rfl⟩ := h
          exact sem hE
        · simp only [hq2] at hE
          simp only [Ans.res, Option.some.injEq, Prod.mk.injEq] at h
          obtain ⟨rfl, rfl⟩ := h
          split at hE
          · exact (sem hE).forget rfl
          · exact (sem hE).forget rfl
def tcT (n n2 k k2 : Nat) (row row2 : Nat → List Value) (q : Int) : Bool := Nat.beq n n2 && (okOps n row && (Nat.beq k k2 && (okOps k row2 && (decide (0 < q) && (decide (q ≤ (n : Int)) && decide (n ≤ 192))))))
def tcFn : List Value → Mem → Option (Ans (Value × Mem))
  | [.pointer (some ⟨0, 0, none⟩), .agg cm, .agg cb, .int .i64 q], [.cells true 0 cs, .rows true true 12 n2 row, .mp true 12 es, .rows true true 12 k2 row2] => match cs, opCells cm.toList, opCells cb.toList with
    | [.slice (some ⟨1, 0, some 0⟩) n 12, .map (some 2), .slice (some ⟨3, 0, some 0⟩) k 12], some m, some b => some (.br (tcT n n2 k k2 row row2 q) (.br (m.mulE b != 0) (.out (.bool false, goneAll 4)) (.br (mHas (key (m.mulF b)) es) (.out (.bool true, tcM0 n (opsOf n row) es k (opsOf k row2))) (.br (decide ((n : Int) + q > 192)) (.out (.bool false, goneAll 4)) (.br (cosL (m.mulF b) ((opsOf n row).take q.toNat) (opsOf n row) es).1 (.out (.bool true, tcM1 (cosL (m.mulF b) ((opsOf n row).take q.toNat) (opsOf n row) es).2.1.length (cosL (m.mulF b) ((opsOf n row).take q.toNat) (opsOf n row) es).2.1 (cosL (m.mulF b) ((opsOf n row).take q.toNat) (opsOf n row) es).2.2 k (opsOf k row2))) (.out (.bool false, goneAll 4)))))) .fail)
    | _, _, _ => none
  | _, _ => none
def Ctd (P : Program) : Cx := (Ctc P).addF 74 tcFn
theorem oktd : CxOk (Ctd Try.prog) := Cx.addF_ok oktc fun args mm ans v m' h hr => by
  unfold tcFn at h
  split at h
  · rename_i cm cb q cs n2 row es k2 row2
    split at h
    · rename_i n k m b hc1 hc2
      simp only [Option.some.injEq] at h
      subst h
      rcases Ans.br_some hr with ⟨hc, hr1⟩ | ⟨_, hr1⟩
      · clear hr
        unfold tcT at hc
        simp only [Bool.and_eq_true, decide_eq_true_eq] at hc
        obtain ⟨c1, c2, c3, c4, c5, c6, c7⟩ := hc
        have c1 := beq_len c1
        subst c1
        have c3 := beq_len c3
        subst c3
        have e1 : cm = m.cells.toArray := by rw [← opCells_spec hc1]
        have e2 : cb = b.cells.toArray := by rw [← opCells_spec hc2]
        subst e1
        subst e2
        exact (tcSem m b q n (opsOf n row) es k (opsOf k row2) (opsOf_length n row) (opsOf_length k row2) c5 c6 c7 hr1).like ⟨.refl _, .rows (ops_like c2), .refl _, .rows (ops_like c4), trivial⟩
      · simp [Ans.res] at hr1
    · cases h
  · cases h
end Go.Proofs.Ytmpkkmhielkggaa


namespace Go.Proofs.Ytmpkkmhielkggaa
open Go Vx
def tkX (P : Program) : Code := (loopsOf P 38 10).headD .skip
theorem tkX_eq : loopsOf Try.prog 38 10 = [tkX Try.prog] := by kernel_rfl

def tkNE (o : O3) (n : Nat) (xs : List O3) (es : ES) (k : Nat) (ms : List O3) : Mem := [.cells true 0 [.slice (some ⟨1, 0, some 0⟩) n 12, .map (some 2), .slice (some ⟨6, 0, some 0⟩) k 12], .rows true true 12 n (opRow xs), .mp true 12 es, .cells true 0 o.cells, .cells true 0 [], .rows true true 12 1 (chop 12 0 o.cells), .rows true true 12 k (opRow ms)]
def tkNA (o : O3) (n : Nat) (xs : List O3) (es : ES) (k : Nat) (ms : List O3) : Mem := [.cells true 0 [.slice (some ⟨1, 0, some 0⟩) n 12, .map (some 2), .slice (some ⟨6, 0, some 0⟩) k 12], .rows true true 12 n (opRow xs), .mp true 12 es, .cells true 0 o.cells, .cells true 0 [], .rows true true 12 1 (chop 12 0 o.cells), .rows true true 12 k (opRow ms), .no]
def tkNB (o : O3) (n : Nat) (xs : List O3) (es : ES) (k : Nat) (ms : List O3) : Mem := [.cells true 0 [.slice (some ⟨7, 0, some 0⟩) n 12, .map (some 2), .slice (some ⟨6, 0, some 0⟩) k 12], .gone, .mp true 12 es, .cells true 0 o.cells, .cells true 0 [], .rows true true 12 1 (chop 12 0 o.cells), .rows true true 12 k (opRow ms), .rows true true 12 n (opRow xs)]
def tkNX (o : O3) : Mem := [.gone, .gone, .gone, .cells true 0 o.cells, .cells true 0 [], .rows true true 12 1 (chop 12 0 o.cells), .no, .no]
def tkNH (m : Mem) (k : Nat) (q f i : Int) : St := stOf 68 [(0, .pointer (some ⟨0, 0, none⟩)), (4, .bool false), (7, vI q), (8, vI f), (49, .slice (some ⟨6, 0, some 0⟩) k 12), (50, vI k), (51, vI i)] m
theorem tkNRE (o : O3) (n : Nat) (xs : List O3) (es : ES) (k : Nat) (ms : List O3) (q f i : Int) : roundR ((Ctd Try.prog).into 38 3) 40 (tkX Try.prog) [0, 4, 7, 8, 49, 50, 51] [0, 4, 7, 8] [.fix 0, .fix 1, .fix 2, .fix 3, .fix 4, .fix 5, .cell 0 2, .cellN 0 0 3] [.fix 0, .fix 1, .fix 2, .fix 3, .fix 4, .fix 5, .cell 0 2, .cellN 0 0 3] (tkNH (tkNE o n xs es k ms) k q f i) =
    (match decide (i < (k : Int)) with
    | true => match boundsI i k with
      | true => match boundsI f n with
        | true => match tcT n n k k (opRow xs) (opRow ms) q with
          | true => match (atO ms i).mulE (atO xs f) != 0 with
            | true => some (.ret, stOf 68 [(0, .pointer (some ⟨0, 0, none⟩)), (4, .bool false), (7, vI q), (8, vI f)] (tkNX o))
            | false => match mHas (key ((atO ms i).mulF (atO xs f))) es with
              | true => some (.normal, tkNH (tkNA o n (opsOf n (opRow xs)) es k (opsOf k (opRow ms))) k q f (W (i + 1)))
              | false => match decide ((n : Int) + q > 192) with
                | true => some (.ret, stOf 68 [(0, .pointer (some ⟨0, 0, none⟩)), (4, .bool false), (7, vI q), (8, vI f)] (tkNX o))
                | false => match (cosL ((atO ms i).mulF (atO xs f)) ((opsOf n (opRow xs)).take q.toNat) (opsOf n (opRow xs)) es).1 with
                  | true => some (.normal, tkNH (tkNB o (cosL ((atO ms i).mulF (atO xs f)) ((opsOf n (opRow xs)).take q.toNat) (opsOf n (opRow xs)) es).2.1.length (cosL ((atO ms i).mulF (atO xs f)) ((opsOf n (opRow xs)).take q.toNat) (opsOf n (opRow xs)) es).2.1 (cosL ((atO ms i).mulF (atO xs f)) ((opsOf n (opRow xs)).take q.toNat) (opsOf n (opRow xs)) es).2.2 k (opsOf k (opRow ms))) k q f (W (i + 1)))
                  | false => some (.ret, stOf 68 [(0, .pointer (some ⟨0, 0, none⟩)), (4, .bool false), (7, vI q), (8, vI f)] (tkNX o))
          | false => none
        | false => none
      | false => none
    | false => some (.exit 2, stOf 68 [(0, .pointer (some ⟨0, 0, none⟩)), (4, .bool false), (7, vI q), (8, vI f)] (tkNA o n xs es k ms))) := by kernel_rfl
theorem tkNRA (o : O3) (n : Nat) (xs : List O3) (es : ES) (k : Nat) (ms : List O3) (q f i : Int) : roundR ((Ctd Try.prog).into 38 3) 40 (tkX Try.prog) [0, 4, 7, 8, 49, 50, 51] [0, 4, 7, 8] [.fix 0, .fix 1, .fix 2, .fix 3, .fix 4, .fix 5, .cell 0 2, .cellN 0 0 3] [.fix 0, .fix 1, .fix 2, .fix 3, .fix 4, .fix 5, .cell 0 2, .cellN 0 0 3] (tkNH (tkNA o n xs es k ms) k q f i) =
    (match decide (i < (k : Int)) with
    | true => match boundsI i k with
      | true => match boundsI f n with
        | true => match tcT n n k k (opRow xs) (opRow ms) q with
          | true => match (atO ms i).mulE (atO xs f) != 0 with
            | true => some (.ret, stOf 68 [(0, .pointer (some ⟨0, 0, none⟩)), (4, .bool false), (7, vI q), (8, vI f)] (tkNX o))
            | false => match mHas (key ((atO ms i).mulF (atO xs f))) es with
              | true => some (.normal, tkNH (tkNA o n (opsOf n (opRow xs)) es k (opsOf k (opRow ms))) k q f (W (i + 1)))
              | false => match decide ((n : Int) + q > 192) with
                | true => some (.ret, stOf 68 [(0, .pointer (some ⟨0, 0, none⟩)), (4, .bool false), (7, vI q), (8, vI f)] (tkNX o))
                | false => match (cosL ((atO ms i).mulF (atO xs f)) ((opsOf n (opRow xs)).take q.toNat) (opsOf n (opRow xs)) es).1 with
                  | true => some (.normal, tkNH (tkNB o (cosL ((atO ms i).mulF (atO xs f)) ((opsOf n (opRow xs)).take q.toNat) (opsOf n (opRow xs)) es).2.1.length (cosL ((atO ms i).mulF (atO xs f)) ((opsOf n (opRow xs)).take q.toNat) (opsOf n (opRow xs)) es).2.1 (cosL ((atO ms i).mulF (atO xs f)) ((opsOf n (opRow xs)).take q.toNat) (opsOf n (opRow xs)) es).2.2 k (opsOf k (opRow ms))) k q f (W (i + 1)))
                  | false => some (.ret, stOf 68 [(0, .pointer (some ⟨0, 0, none⟩)), (4, .bool false), (7, vI q), (8, vI f)] (tkNX o))
          | false => none
        | false => none
      | false => none
    | false => some (.exit 2, stOf 68 [(0, .pointer (some ⟨0, 0, none⟩)), (4, .bool false), (7, vI q), (8, vI f)] (tkNA o n xs es k ms))) := by kernel_rfl
theorem tkNRB (o : O3) (n : Nat) (xs : List O3) (es : ES) (k : Nat) (ms : List O3) (q f i : Int) : roundR ((Ctd Try.prog).into 38 3) 40 (tkX Try.prog) [0, 4, 7, 8, 49, 50, 51] [0, 4, 7, 8] [.fix 0, .fix 1, .fix 2, .fix 3, .fix 4, .fix 5, .cell 0 2, .cellN 0 0 3] [.fix 0, .fix 1, .fix 2, .fix 3, .fix 4, .fix 5, .cell 0 2, .cellN 0 0 3] (tkNH (tkNB o n xs es k ms) k q f i) =
    (match decide (i < (k : Int)) with
    | true => match boundsI i k with
      | true => match boundsI f n with
        | true => match tcT n n k k (opRow xs) (opRow ms) q with
          | true => match (atO ms i).mulE (atO xs f) != 0 with
            | true => some (.ret, stOf 68 [(0, .pointer (some ⟨0, 0, none⟩)), (4, .bool false), (7, vI q), (8, vI f)] (tkNX o))
            | false => match mHas (key ((atO ms i).mulF (atO xs f))) es with
              | true => some (.normal, tkNH (tkNB o n (opsOf n (opRow xs)) es k (opsOf k (opRow ms))) k q f (W (i + 1)))
              | false => match decide ((n : Int) + q > 192) with
                | true => some (.ret, stOf 68 [(0, .pointer (some ⟨0, 0, none⟩)), (4, .bool false), (7, vI q), (8, vI f)] (tkNX o))
                | false => match (cosL ((atO ms i).mulF (atO xs f)) ((opsOf n (opRow xs)).take q.toNat) (opsOf n (opRow xs)) es).1 with
                  | true => some (.normal, tkNH (tkNB o (cosL ((atO ms i).mulF (atO xs f)) ((opsOf n (opRow xs)).take q.toNat) (opsOf n (opRow xs)) es).2.1.length (cosL ((atO ms i).mulF (atO xs f)) ((opsOf n (opRow xs)).take q.toNat) (opsOf n (opRow xs)) es).2.1 (cosL ((atO ms i).mulF (atO xs f)) ((opsOf n (opRow xs)).take q.toNat) (opsOf n (opRow xs)) es).2.2 k (opsOf k (opRow ms))) k q f (W (i + 1)))
                  | false => some (.ret, stOf 68 [(0, .pointer (some ⟨0, 0, none⟩)), (4, .bool false), (7, vI q), (8, vI f)] (tkNX o))
          | false => none
        | false => none
      | false => none
    | false => some (.exit 2, stOf 68 [(0, .pointer (some ⟨0, 0, none⟩)), (4, .bool false), (7, vI q), (8, vI f)] (tkNB o n xs es k ms))) := by kernel_rfl


def tkME (o : O3) (n : Nat) (xs : List O3) (es : ES) (k : Nat) (ms : List O3) : Mem := [.cells true 0 [.slice (some ⟨1, 0, some 0⟩) n 12, .map (some 2), .slice (some ⟨7, 0, some 0⟩) k 12], .rows true true 12 n (opRow xs), .mp true 12 es, .gone, .cells true 0 o.cells, .cells true 0 [], .rows true true 12 1 (chop 12 0 o.cells), .rows true true 12 k (opRow ms)]
def tkMA (o : O3) (n : Nat) (xs : List O3) (es : ES) (k : Nat) (ms : List O3) : Mem := [.cells true 0 [.slice (some ⟨1, 0, some 0⟩) n 12, .map (some 2), .slice (some ⟨7, 0, some 0⟩) k 12], .rows true true 12 n (opRow xs), .mp true 12 es, .gone, .cells true 0 o.cells, .cells true 0 [], .rows true true 12 1 (chop 12 0 o.cells), .rows true true 12 k (opRow ms), .no]
def tkMB (o : O3) (n : Nat) (xs : List O3) (es : ES) (k : Nat) (ms : List O3) : Mem := [.cells true 0 [.slice (some ⟨8, 0, some 0⟩) n 12, .map (some 2), .slice (some ⟨7, 0, some 0⟩) k 12], .gone, .mp true 12 es, .gone, .cells true 0 o.cells, .cells true 0 [], .rows true true 12 1 (chop 12 0 o.cells), .rows true true 12 k (opRow ms), .rows true true 12 n (opRow xs)]
def tkMX (o : O3) : Mem := [.gone, .gone, .gone, .gone, .cells true 0 o.cells, .cells true 0 [], .rows true true 12 1 (chop 12 0 o.cells), .no, .no]
def tkMH (m : Mem) (k : Nat) (q f i : Int) : St := stOf 68 [(0, .pointer (some ⟨0, 0, none⟩)), (4, .bool false), (7, vI q), (8, vI f), (49, .slice (some ⟨7, 0, some 0⟩) k 12), (50, vI k), (51, vI i)] m
theorem tkMRE (o : O3) (n : Nat) (xs : List O3) (es : ES) (k : Nat) (ms : List O3) (q f i : Int) : roundR ((Ctd Try.prog).into 38 4) 40 (tkX Try.prog) [0, 4, 7, 8, 49, 50, 51] [0, 4, 7, 8] [.fix 0, .fix 1, .fix 2, .fix 3, .fix 4, .fix 5, .fix 6, .cell 0 2, .cellN 0 0 4] [.fix 0, .fix 1, .fix 2, .fix 3, .fix 4, .fix 5, .fix 6, .cell 0 2, .cellN 0 0 4] (tkMH (tkME o n xs es k ms) k q f i) =
    (match decide (i < (k : Int)) with
    | true => match boundsI i k with
      | true => match boundsI f n with
        | true => match tcT n n k k (opRow xs) (opRow ms) q with
          | true => match (atO ms i).mulE (atO xs f) != 0 with
            | true => some (.ret, stOf 68 [(0, .pointer (some ⟨0, 0, none⟩)), (4, .bool false), (7, vI q), (8, vI f)] (tkMX o))
            | false => match mHas (key ((atO ms i).mulF (atO xs f))) es with
              | true => some (.normal, tkMH (tkMA o n (opsOf n (opRow xs)) es k (opsOf k (opRow ms))) k q f (W (i + 1)))
              | false => match decide ((n : Int) + q > 192) with
                | true => some (.ret, stOf 68 [(0, .pointer (some ⟨0, 0, none⟩)), (4, .bool false), (7, vI q), (8, vI f)] (tkMX o))
                | false => match (cosL ((atO ms i).mulF (atO xs f)) ((opsOf n (opRow xs)).take q.toNat) (opsOf n (opRow xs)) es).1 with
                  | true => some (.normal, tkMH (tkMB o (cosL ((atO ms i).mulF (atO xs f)) ((opsOf n (opRow xs)).take q.toNat) (opsOf n (opRow xs)) es).2.1.length (cosL ((atO ms i).mulF (atO xs f)) ((opsOf n (opRow xs)).take q.toNat) (opsOf n (opRow xs)) es).2.1 (cosL ((atO ms i).mulF (atO xs f)) ((opsOf n (opRow xs)).take q.toNat) (opsOf n (opRow xs)) es).2.2 k (opsOf k (opRow ms))) k q f (W (i + 1)))
                  | false => some (.ret, stOf 68 [(0, .pointer (some ⟨0, 0, none⟩)), (4, .bool false), (7, vI q), (8, vI f)] (tkMX o))
          | false => none
        | false => none
      | false => none
    | false => some (.exit 2, stOf 68 [(0, .pointer (some ⟨0, 0, none⟩)), (4, .bool false), (7, vI q), (8, vI f)] (tkMA o n xs es k ms))) := by kernel_rfl
theorem tkMRA (o : O3) (n : Nat) (xs : List O3) (es : ES) (k : Nat) (ms : List O3) (q f i : Int) : roundR ((Ctd Try.prog).into 38 4) 40 (tkX Try.prog) [0, 4, 7, 8, 49, 50, 51] [0, 4, 7, 8] [.fix 0, .fix 1, .fix 2, .fix 3, .fix 4, .fix 5, .fix 6, .cell 0 2, .cellN 0 0 4] [.fix 0, .fix 1, .fix 2, .fix 3, .fix 4, .fix 5, .fix 6, .cell 0 2, .cellN 0 0 4] (tkMH (tkMA o n xs es k ms) k q f i) =
    (match decide (i < (k : Int)) with
    | true => match boundsI i k with
      | true => match boundsI f n with
        | true => match tcT n n k k (opRow xs) (opRow ms) q with
          | true => match (atO ms i).mulE (atO xs f) != 0 with
            | true => some (.ret, stOf 68 [(0, .pointer (some ⟨0, 0, none⟩)), (4, .bool false), (7, vI q), (8, vI f)] (tkMX o))
            | false => match mHas (key ((atO ms i).mulF (atO xs f))) es with
              | true => some (.normal, tkMH (tkMA o n (opsOf n (opRow xs)) es k (opsOf k (opRow ms))) k q f (W (i + 1)))
              | false => match decide ((n : Int) + q > 192) with
                | true => some (.ret, stOf 68 [(0, .pointer (some ⟨0, 0, none⟩)), (4, .bool false), (7, vI q), (8, vI f)] (tkMX o))
                | false => match (cosL ((atO ms i).mulF (atO xs f)) ((opsOf n (opRow xs)).take q.toNat) (opsOf n (opRow xs)) es).1 with
                  | true => some (.normal, tkMH (tkMB o (cosL ((atO ms i).mulF (atO xs f)) ((opsOf n (opRow xs)).take q.toNat) (opsOf n (opRow xs)) es).2.1.length (cosL ((atO ms i).mulF (atO xs f)) ((opsOf n (opRow xs)).take q.toNat) (opsOf n (opRow xs)) es).2.1 (cosL ((atO ms i).mulF (atO xs f)) ((opsOf n (opRow xs)).take q.toNat) (opsOf n (opRow xs)) es).2.2 k (opsOf k (opRow ms))) k q f (W (i + 1)))
                  | false => some (.ret, stOf 68 [(0, .pointer (some ⟨0, 0, none⟩)), (4, .bool false), (7, vI q), (8, vI f)] (tkMX o))
          | false => none
        | false => none
      | false => none
    | false => some (.exit 2, stOf 68 [(0, .pointer (some ⟨0, 0, none⟩)), (4, .bool false), (7, vI q), (8, vI f)] (tkMA o n xs es k ms))) := by kernel_rfl
theorem tkMRB (o : O3) (n : Nat) (xs : List O3) (es : ES) (k : Nat) (ms : List O3) (q f i : Int) : roundR ((Ctd Try.prog).into 38 4) 40 (tkX Try.prog) [0, 4, 7, 8, 49, 50, 51] [0, 4, 7, 8] [.fix 0, .fix 1, .fix 2, .fix 3, .fix 4, .fix 5, .fix 6, .cell 0 2, .cellN 0 0 4] [.fix 0, .fix 1, .fix 2, .fix 3, .fix 4, .fix 5, .fix 6, .cell 0 2, .cellN 0 0 4] (tkMH (tkMB o n xs es k ms) k q f i) =
    (match decide (i < (k : Int)) with
    | true => match boundsI i k with
      | true => match boundsI f n with
        | true => match tcT n n k k (opRow xs) (opRow ms) q with
          | true => match (atO ms i).mulE (atO xs f) != 0 with
            | true => some (.ret, stOf 68 [(0, .pointer (some ⟨0, 0, none⟩)), (4, .bool false), (7, vI q), (8, vI f)] (tkMX o))
            | false => match mHas (key ((atO ms i).mulF (atO xs f))) es with
              | true => some (.normal, tkMH (tkMB o n (opsOf n (opRow xs)) es k (opsOf k (opRow ms))) k q f (W (i + 1)))
              | false => match decide ((n : Int) + q > 192) with
                | true => some (.ret, stOf 68 [(0, .pointer (some ⟨0, 0, none⟩)), (4, .bool false), (7, vI q), (8, vI f)] (tkMX o))
                | false => match (cosL ((atO ms i).mulF (atO xs f)) ((opsOf n (opRow xs)).take q.toNat) (opsOf n (opRow xs)) es).1 with
                  | true => some (.normal, tkMH (tkMB o (cosL ((atO ms i).mulF (atO xs f)) ((opsOf n (opRow xs)).take q.toNat) (opsOf n (opRow xs)) es).2.1.length (cosL ((atO ms i).mulF (atO xs f)) ((opsOf n (opRow xs)).take q.toNat) (opsOf n (opRow xs)) es).2.1 (cosL ((atO ms i).mulF (atO xs f)) ((opsOf n (opRow xs)).take q.toNat) (opsOf n (opRow xs)) es).2.2 k (opsOf k (opRow ms))) k q f (W (i + 1)))
                  | false => some (.ret, stOf 68 [(0, .pointer (some ⟨0, 0, none⟩)), (4, .bool false), (7, vI q), (8, vI f)] (tkMX o))
          | false => none
        | false => none
      | false => none
    | false => some (.exit 2, stOf 68 [(0, .pointer (some ⟨0, 0, none⟩)), (4, .bool false), (7, vI q), (8, vI f)] (tkMB o n xs es k ms))) := by kernel_rfl

end Go.Proofs.Ytmpkkmhielkggaa
