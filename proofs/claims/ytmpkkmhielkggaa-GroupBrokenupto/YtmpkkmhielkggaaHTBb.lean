/-
  facetlaw05.GroupBroken, piece by piece. Nothing here is trusted.
-/
import Derived.Test.YtmpkkmhielkggaaHTBa
namespace Go.Proofs.Ytmpkkmhielkggaa
open Go Vx
def tailR (t : Nat) (row : Nat → List Value) : Nat → List Value := match t with
  | 0 => row
  | t => fun r => row (t + r)
def gT (i : Nat) : Nat := (W ((i : Int) + 1)).toNat
/-- Behind them the list without a map. -/
def gb2 (own : Bool) (n : Nat) (xs : List O3) (k : Nat) (G : List O3) (i j : Nat) (l : Nat) (r : Nat → List Value) : St := stOf 152 [(1, vI i), (2, vI j), (6, .bool false), (7, .slice (some ⟨1, 0, some 0⟩) k 12), (9, vI k), (10, .slice (some ⟨2, 0, some 0⟩) l 12)] [.rows own true 12 n (opRow xs), .rows true true 12 k (opRow G), .rows true true 12 l r]
def gb2n (own : Bool) (n : Nat) (xs : List O3) (k : Nat) (G : List O3) (i j : Nat) : St := stOf 152 [(1, vI i), (2, vI j), (6, .bool false), (7, .slice (some ⟨1, 0, some 0⟩) k 12), (9, vI k), (10, .slice none 0 0)] [.rows own true 12 n (opRow xs), .rows true true 12 k (opRow G), .no]
theorem gbP2 (own : Bool) (n : Nat) (xs : List O3) (k : Nat) (G : List O3) (i j : Nat) : segR ((Cqa Try.prog).into 4 1) 60 1 (seqDrop 6 (gbB Try.prog)) [1, 2, 6, 7, 9, 10] [.fix 0, .slot 7, .slot 10] (gb1 own n xs k G i j) =
    gd (leI i k) (gd (Nat.ble (0 + i) k && true) (gd (twT i (opRow G)) (gn (Nat.beq i 0) (gd (leI (W ((i : Int) + 1)) k) (match decide (W ((i : Int) + 1) < (k : Int)) with
      | true => match Nat.beq (k - gT i) 0 with
        | true => some (gb2 own n xs k G i j i (opRow (opsOf i (opRow G))))
        | false => gd (Nat.beq i i && room12 (i + (k - gT i))) (some (gb2 own n xs k G i j (i + (k - gT i)) (catR i (opRow (opsOf i (opRow G))) (tailR (gT i) (opRow G)))))
      | false => some (gb2 own n xs k G i j i (opRow (opsOf i (opRow G)))))))))  := by kernel_rfl
theorem gbP2z (own : Bool) (n : Nat) (xs : List O3) (k : Nat) (G : List O3) (j : Nat) : segR ((Cqe Try.prog).into 4 1) 60 1 (seqDrop 6 (gbB Try.prog)) [1, 2, 6, 7, 9, 10] [.fix 0, .slot 7, .slot 10] (gb1 own n xs k G (0 : Nat) j) =
    gd (leI 0 k) (gd (leI 1 k) (match decide (1 < (k : Int)) with
      | true => match Nat.beq (k - 1) 0 with
        | true => some (gb2n own n xs k G 0 j)
        | false => gd (room12 (k - 1)) (some (gb2 own n xs k G 0 j (k - 1) (tailR 1 (opRow G))))
      | false => some (gb2n own n xs k G 0 j))) := by kernel_rfl
/-- Check as it answers. -/
def Cbl (P : Program) : Cx := (Cpb P).looks 14 [true]
theorem okbl : CxOk (Cbl Try.prog) := Cx.looks_ok okpb _ _
def gbC (l : Nat) (r : Nat → List Value) (f : Int → Option St) : Option St := gd (lk l) (gd (oT l r) (f (chkI (opsOf l r))))
def gbTail (own : Bool) (n : Nat) (xs : List O3) (k : Nat) (G : List O3) (i j : Nat) (l : Nat) (r : Nat → List Value) : Option St := match (k : Int) == 2 with
  | true => gbC l r fun c => gd (boundsI i k) (match (c == 0) != !((atO G i).eqB O3.one) with
    | true => none
    | false => some (gb1 own n xs k G i j))
  | false => some (gb1 own n xs k G i j)
theorem gbP3 (own : Bool) (n : Nat) (xs : List O3) (k : Nat) (G : List O3) (i j : Nat) (l : Nat) (r : Nat → List Value) : segR ((Cbl Try.prog).into 4 1) 60 1 (seqDrop 7 (gbB Try.prog)) [1, 2, 6, 7, 9] [.fix 0, .slot 7] (gb2 own n xs k G i j l r) =
    (match decide ((k : Int) > 2) with
    | true => gbC l r fun c => match c != 5 with
      | true => none
      | false => gbTail own n xs k G i j l r
    | false => gbTail own n xs k G i j l r) := by kernel_rfl
theorem gbP3n (own : Bool) (n : Nat) (xs : List O3) (G : List O3) (j : Nat) : segR ((Cbl Try.prog).into 4 1) 60 1 (seqDrop 7 (gbB Try.prog)) [1, 2, 6, 7, 9] [.fix 0, .slot 7] (gb2n own n xs 1 G 0 j) = some (gb1 own n xs 1 G (0 : Nat) j) := by kernel_rfl
/-- Check answers 5. -/
def Cb5 (P : Program) : Cx := ((Cpb P).good 13 [true, false]).want 14 [true] 5
theorem okb5 : CxOk (Cb5 Try.prog) := Cx.want_ok (Cx.good_ok okpb _ _) _ _ _
def swR (T : List O3) (i j : Nat) : Nat → List Value := fun q => match Nat.beq q j with
  | true => setMany (match Nat.beq j i with
    | true => setMany (opRow T i) 0 (atO T j).cells
    | false => opRow T j) 0 (atO T i).cells
  | false => match Nat.beq q i with
    | true => setMany (opRow T i) 0 (atO T j).cells
    | false => opRow T q
theorem gbP4 (own : Bool) (n : Nat) (xs : List O3) (k : Nat) (G : List O3) (i j : Nat) : segR ((Cb5 Try.prog).into 4 1) 60 1 (seqDrop 8 (gbB Try.prog)) [1, 2, 6, 7, 9] [.fix 0, .slot 7] (gb1 own n xs k G i j) =
    (match (i : Int) != (j : Int) with
    | true => gd (lk k) (gd (twT k (opRow G)) (gn (Nat.beq k 0) (gd (boundsI j k) (gd (boundsI i k) (gd (boundsI i k) (gd (boundsI j k) (gd (lk k) (gd (oT k (swR (opsOf k (opRow G)) i j)) (gd (chkI (opsOf k (swR (opsOf k (opRow G)) i j)) == 5) (some (gb1 own n xs k G i j)))))))))))
    | false => some (gb1 own n xs k G i j)) := by kernel_rfl
def gbC5 (l : Nat) (r : Nat → List Value) (x : Option St) : Option St := gd (lk l) (gd (oT l r) (gd (chkI (opsOf l r) == 5) x))
theorem gbP5 (own : Bool) (n : Nat) (xs : List O3) (k : Nat) (G : List O3) (i j : Nat) : segR ((Cb5 Try.prog).into 4 1) 60 1 (seqDrop 9 (gbB Try.prog)) [1, 2, 6, 7, 9] [.fix 0, .slot 7] (gb1 own n xs k G i j) =
    (match decide ((k : Int) < 192) with
    | true => gd (leI (W ((i : Int) + 1)) k) (gd (Nat.ble (0 + gT i) k && true) (gd (twT (gT i) (opRow G)) (gn (Nat.beq (gT i) 0) (gd (leI i k) (match decide ((i : Int) < (k : Int)) with
      | true => match Nat.beq (k - i) 0 with
        | true => gbC5 (gT i) (opRow (opsOf (gT i) (opRow G))) (some (gb1 own n xs k G i j))
        | false => gd (Nat.beq (gT i) (gT i) && room12 (gT i + (k - i))) (gbC5 (gT i + (k - i)) (catR (gT i) (opRow (opsOf (gT i) (opRow G))) (tailR i (opRow G))) (some (gb1 own n xs k G i j)))
      | false => gbC5 (gT i) (opRow (opsOf (gT i) (opRow G))) (some (gb1 own n xs k G i j)))))))
    | false => some (gb1 own n xs k G i j)) := by kernel_rfl
def gb6 (own : Bool) (n : Nat) (xs : List O3) (k : Nat) (G : List O3) (p : Nat) (Pt : List O3) : St := stOf 152 [(6, .bool false), (7, .slice (some ⟨1, 0, some 0⟩) k 12), (8, vI 0), (9, vI k), (13, .slice (some ⟨2, 0, some 0⟩) p 12)] [.rows own true 12 n (opRow xs), .rows true true 12 k (opRow G), .rows true true 12 p (opRow Pt)]
def gbR (a b : O3) : Nat → List Value := chop 12 0 (a.cells ++ b.cells)
theorem gbP6 (own : Bool) (n : Nat) (xs : List O3) (k : Nat) (G : List O3) (i j : Nat) : segR ((Cqa Try.prog).into 4 1) 60 1 (seqDrop 10 (gbB Try.prog)) [6, 7, 8, 9, 13] [.fix 0, .slot 7, .slot 13] (gb1 own n xs k G i j) =
    gd (boundsI i k) (gd (boundsI j k) (gd (oT 2 (gbR (atO G i) (atO G j))) (gd (clsOk (opsOf 2 (gbR (atO G i) (atO G j)))) (some (gb6 own n xs k G (clsG (opsOf 2 (gbR (atO G i) (atO G j)))).length (clsG (opsOf 2 (gbR (atO G i) (atO G j))))))))) := by kernel_rfl
def gb7 (own : Bool) (n : Nat) (xs : List O3) (k : Nat) (G : List O3) (p : Nat) (Pt : List O3) : St := stOf 152 [(6, .bool false), (7, .slice (some ⟨1, 0, some 0⟩) k 12), (13, .slice (some ⟨2, 0, some 0⟩) p 12)] [.rows own true 12 n (opRow xs), .rows true true 12 k (opRow G), .rows true true 12 p (opRow Pt)]
theorem gbP7 (own : Bool) (n : Nat) (xs : List O3) (k : Nat) (G : List O3) (p : Nat) (Pt : List O3) : segR ((Cqa Try.prog).into 4 1) 60 1 (seqDrop 11 (gbB Try.prog)) [6, 7, 13] [.fix 0, .slot 7, .slot 13] (gb6 own n xs k G p Pt) =
    gn ((p : Int) == 0) (match Int.tmod (k : Int) (p : Int) != 0 with
      | true => none
      | false => some (gb7 own n xs k G p Pt)) := by kernel_rfl

def bfX (P : Program) : Code := (loopsOf P 4 24).headD .skip
theorem bfX_eq : loopsOf Try.prog 4 24 = [bfX Try.prog] := by kernel_rfl
def bfH (own : Bool) (n : Nat) (xs : List O3) (k : Nat) (ys : List O3) (p : Nat) (zs : List O3) (i : Int) : St := stOf 152 [(6, .bool false), (7, .slice (some ⟨1, 0, some 0⟩) k 12), (134, .slice (some ⟨2, 0, some 0⟩) p 12), (135, vI p), (136, vI i)] [.rows own true 12 n (opRow xs), .rows true true 12 k (opRow ys), .rows true true 12 p (opRow zs)]
theorem bfR (own : Bool) (n : Nat) (xs : List O3) (k : Nat) (ys : List O3) (p : Nat) (zs : List O3) (i : Int) : roundR ((Cqa Try.prog).into 4 1) 40 (bfX Try.prog) [6, 7, 134, 135, 136] [6] [.fix 0, .fix 1, .fix 2] [.fix 0] (bfH own n xs k ys p zs i) =
    (match decide (i < (p : Int)) with
    | true => match boundsI i p with
      | true => match decide (i > 5) with
        | true => some (.exit 0, stOf 152 [(6, .bool false)] [.rows own true 12 n (opRow xs)])
        | false => gd (lk k) (gd (bI k (opRow ys)) (gd (fndE (opsOf k (opRow ys)) (atO zs i) == 0) (some (.normal, bfH own n xs k ys p zs (W (i + 1))))))
      | false => none
    | false => some (.exit 0, stOf 152 [(6, .bool false)] [.rows own true 12 n (opRow xs)])) := by kernel_rfl
structure bfG where
  (own : Bool) (n : Nat) (xs : List O3) (k : Nat) (ys : List O3) (p : Nat) (zs : List O3) (i : Int)
def bfO (own : Bool) (n : Nat) (xs : List O3) (_ : Nat) (_ : List O3) (_ : Nat) (_ : List O3) (_ : Int) : Exit × St :=
  (.exit 0, stOf 152 [(6, .bool false)] [.rows own true 12 n (opRow xs)])
theorem bfL (own : Bool) (n : Nat) (xs : List O3) (k : Nat) (ys : List O3) (p : Nat) (zs : List O3) (i : Int) (hg : 0 ≤ i ∧ (p : Int) ≤ 4611686018427387904 ∧ zs.length = p ∧ ys.length = k ∧ k ≤ 4611686018427387904 ∧ allF ys (zs.drop i.toNat) = true) : LoopSem Try.prog 1 (bfX Try.prog) (bfH own n xs k ys p zs i) (bfO own n xs k ys p zs i).1 (bfO own n xs k ys p zs i).2 := by
  refine loop_rule (C := Cqa Try.prog) okqa (f := 4) (B := 1) (loopsOf_in (k := 24) bfX_eq) 40 [6, 7, 134, 135, 136] [6] [.fix 0, .fix 1, .fix 2] [.fix 0] (fun g : bfG => bfH g.own g.n g.xs g.k g.ys g.p g.zs g.i) (fun g => (g.p - g.i).toNat) (fun g => 0 ≤ g.i ∧ (g.p : Int) ≤ 4611686018427387904 ∧ g.zs.length = g.p ∧ g.ys.length = g.k ∧ g.k ≤ 4611686018427387904 ∧ allF g.ys (g.zs.drop g.i.toNat) = true) (fun g => bfO g.own g.n g.xs g.k g.ys g.p g.zs g.i) ?_ ⟨own, n, xs, k, ys, p, zs, i⟩ hg
  clear hg
  rintro ⟨own, n, xs, k, ys, p, zs, i⟩ hg
  simp only at hg
  simp only [bfR]
  obtain ⟨h0, h1, h2, h3, h4, h5⟩ := hg
  by_cases hi : i < (p : Int)
  · have hd : decide (i < (p : Int)) = true := by simpa using hi
    have hb : boundsI i p = true := by simp [boundsI, h0, hi]
    have hdx := drop_at (xs := zs) h0 (by omega)
    have hw : W (i + 1) = i + 1 := W_in (by omega)
    by_cases h6 : i > 5
    · have hd6 : decide (i > 5) = true := by simpa using h6
      rw [hd, hb, hd6]
      right
      unfold bfO
      exact ⟨rfl, by simp⟩
    · have hd6 : decide (i > 5) = false := by simpa using h6
      rw [hdx, allF, Bool.and_eq_true] at h5
      rw [hd, hb, hd6, hw, lk_true, bI_ok h4, opsOf_row h3, h5.1]
      left
      exact ⟨⟨own, n, xs, k, ys, p, zs, i + 1⟩, rfl, ⟨by simp only; omega, h1, h2, h3, h4, h5.2⟩, by simp only; omega, rfl⟩
  · have hd : decide (i < (p : Int)) = false := by simpa using hi
    rw [hd]
    right
    unfold bfO
    exact ⟨rfl, by simp⟩
def bfS (st : St) : Option (Ans (Exit × St)) :=
  match sized st 152 3, tAt st 6, tAt st 7, tAt st 134, tAt st 135, tAt st 136, st.mem with
  | true, some (.bool false), some (.slice (some ⟨1, 0, some 0⟩) k 12), some (.slice (some ⟨2, 0, some 0⟩) p 12), some (.int .i64 lp), some (.int .i64 0), [.rows own true 12 n row, .rows true true 12 k2 row2, .rows true true 12 p2 row3] => some (.br (okOps n row && (Nat.beq k k2 && (okOps k row2 && (Nat.beq p p2 && (okOps p row3 && (decide ((p : Int) = lp) && (decide ((p : Int) ≤ 4611686018427387904) && (decide (k ≤ 4611686018427387904) && (allF (opsOf k row2) (opsOf p row3)))))))))) (.out (.exit 0, stOf 152 [(6, .bool false)] [.rows own true 12 n (opRow (opsOf n row))])) .fail)
  | _, _, _, _, _, _, _ => none
theorem bfK {st : St} {ans : Ans (Exit × St)} {e_ : Exit} {s_ : St} (h : bfS st = some ans) (hr : ans.res = some (e_, s_)) : LoopSem Try.prog 1 (bfX Try.prog) st e_ s_ := by
  unfold bfS at h
  split at h
  · rename_i k p lp own n row k2 row2 p2 row3 hb hs0 hs1 hs2 hs3 hs4 hm
    simp only [Option.some.injEq] at h
    subst h
    rcases Ans.br_some hr with ⟨hc, hr1⟩ | ⟨_, hr1⟩
    · clear hr
      simp only [Bool.and_eq_true] at hc
      obtain ⟨ht0, ht1, ht2, ht3, ht4, ht5, ht6, ht7, ht8⟩ := hc
      have ht1 := beq_len ht1
      have ht3 := beq_len ht3
      have ht5 : (p : Int) = lp := by simpa using ht5
      subst ht1 ht3 ht5
      have hinv : 0 ≤ ((0 : Int)) ∧ (p : Int) ≤ 4611686018427387904 ∧ (opsOf p row3).length = p ∧ (opsOf k row2).length = k ∧ k ≤ 4611686018427387904 ∧ allF (opsOf k row2) ((opsOf p row3).drop ((0 : Int)).toNat) = true := by
        exact ⟨by omega, by simpa using ht6, opsOf_length p row3, opsOf_length k row2, by simpa using ht7, ht8⟩
      have hk := stOf_keep hb [(6, .bool false), (7, .slice (some ⟨1, 0, some 0⟩) k 12), (134, .slice (some ⟨2, 0, some 0⟩) p 12), (135, vI p), (136, vI ((0 : Int)))] (by
        intro x hx
        simp only [List.mem_cons, List.not_mem_nil, or_false] at hx
        rcases hx with rfl | rfl | rfl | rfl | rfl
        · exact hs0
        · exact hs1
        · exact hs2
        · exact hs3
        · exact hs4) hm
      have key := bfL own n (opsOf n row) k (opsOf k row2) p (opsOf p row3) ((0 : Int)) hinv
      unfold bfH at key
      have key := LoopSem.like (m := [.rows own true 12 n row, .rows true true 12 k row2, .rows true true 12 p row3]) key ⟨.rows (ops_like ht0), .rows (ops_like ht2), .rows (ops_like ht4), trivial⟩
      have key : LoopSem Try.prog 1 (bfX Try.prog) (stOf 152 [(6, .bool false), (7, .slice (some ⟨1, 0, some 0⟩) k 12), (134, .slice (some ⟨2, 0, some 0⟩) p 12), (135, vI p), (136, vI ((0 : Int)))] [.rows own true 12 n row, .rows true true 12 k row2, .rows true true 12 p row3]) _ _ := key
      rw [← hk] at key
      have key := LoopSem.clean key
      unfold bfO at key
      simp only [Ans.res, Option.some.injEq, Prod.mk.injEq] at hr1
      obtain ⟨rfl, rfl⟩ := hr1
      exact key
    · simp [Ans.res] at hr1
  · cases h
def Cbf (P : Program) : Cx := (Cqa P).addLB 4 24 1 bfS
theorem okbf : CxOk (Cbf Try.prog) := Cx.addLB_ok okqa bfX_eq fun _ _ _ _ h hr => bfK h hr
def bfT (n : Nat) (xs : List O3) (k : Nat) (G : List O3) (p : Nat) (Pt : List O3) : Bool := okOps n (opRow xs) && (Nat.beq k k && (okOps k (opRow G) && (Nat.beq p p && (okOps p (opRow Pt) && (decide ((p : Int) = (p : Int)) && (decide ((p : Int) ≤ 4611686018427387904) && (decide (k ≤ 4611686018427387904) && allF (opsOf k (opRow G)) (opsOf p (opRow Pt)))))))))
theorem gbP8 (own : Bool) (n : Nat) (xs : List O3) (k : Nat) (G : List O3) (p : Nat) (Pt : List O3) : roundR ((Cbf Try.prog).into 4 1) 60 (seqDrop 12 (gbB Try.prog)) [6] [6] [.fix 0] [.fix 0] (gb7 own n xs k G p Pt) =
    gd (bfT n xs k G p Pt) (some (.ret, stOf 152 [(6, .bool true)] [.rows own true 12 n (opRow (opsOf n (opRow xs)))])) := by kernel_rfl
theorem gbRet (own : Bool) (n : Nat) (X : List O3) : (retA Try.prog Try.f4 (.ret, stOf 152 [(6, .bool true)] [.rows own true 12 n (opRow X)])).res = some (.bool true, [.rows own true 12 n (opRow X)]) := by kernel_rfl
/-- Close answers an error. -/
theorem gbE2 (own : Bool) (n : Nat) (xs : List O3) (a b : Int) : exT ((Cqd Try.prog).at 4) 80 Try.f4 [.slice (some ⟨0, 0, some 0⟩) n 12, vI a, vI b] [.rows own true 12 n (opRow xs)] [.fix 0] =
    gd (lk n) (gd (twT n (opRow xs)) (gn (Nat.beq n 0) (gd (lk n) (gd (oT n (opRow (opsOf n (opRow xs)))) (gn (clsOk (opsOf n (opRow (opsOf n (opRow xs)))))
      (match clsErr (opsOf n (opRow (opsOf n (opRow xs)))) != 0 with
      | true => ansR own n xs true
      | false => none)))))) := by kernel_rfl
/-- A list of nothing. -/
def gb1z (m : Mem) (g : Nat) (i j : Int) : St := stOf 152 [(1, vI i), (2, vI j), (6, .bool false), (7, .slice (some ⟨g, 0, some 0⟩) 1 12), (9, vI 1)] m
theorem gbZ1 (a b : Int) : segR ((Cqe Try.prog).into 4 0) 60 6 (gbB Try.prog) [1, 2, 6, 7, 9] [.slot 7] (enter Try.f4 [.slice none 0 0, vI a, vI b] []) = some (gb1z [.rows true true 12 1 (opRow [O3.one])] 0 (idxI a 1) (idxI b 1)) := by kernel_rfl
theorem gbZ2 (own : Bool) (a b : Int) : segR ((Cqe Try.prog).into 4 1) 60 6 (gbB Try.prog) [1, 2, 6, 7, 9] [.fix 0, .slot 7] (enter Try.f4 [.slice (some ⟨0, 0, some 0⟩) 0 12, vI a, vI b] [.rows own true 12 0 (opRow [])]) = some (gb1z [.rows own true 12 0 (opRow []), .rows true true 12 1 (opRow [O3.one])] 1 (idxI a 1) (idxI b 1)) := by kernel_rfl
def Cbz (P : Program) : Cx := ((((Cpb P).good 13 [true]).good 12 [true, true]).looks 14 [true]).good 15 [true]
theorem okbz : CxOk (Cbz Try.prog) := Cx.good_ok (Cx.looks_ok (Cx.good_ok (Cx.good_ok okpb _ _) _ _) _ _) _ _
theorem gbZ3 : roundR ((Cbz Try.prog).into 4 0) 90 (seqDrop 6 (gbB Try.prog)) [6] [6] [] [] (gb1z [.rows true true 12 1 (opRow [O3.one])] 0 0 0) = some (.ret, stOf 152 [(6, .bool true)] []) := by kernel_rfl
theorem gbZ4 (own : Bool) : roundR ((Cbz Try.prog).into 4 1) 90 (seqDrop 6 (gbB Try.prog)) [6] [6] [.fix 0] [.fix 0] (gb1z [.rows own true 12 0 (opRow []), .rows true true 12 1 (opRow [O3.one])] 1 0 0) = some (.ret, stOf 152 [(6, .bool true)] [.rows own true 12 0 (opRow [])]) := by kernel_rfl
end Go.Proofs.Ytmpkkmhielkggaa
