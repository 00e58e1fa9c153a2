/-
  facetref15.DocSum as a contract. Nothing here is trusted.
-/
import Derived.Test.YtjhijkdicmbbiaaKah
import Derived.Test.YtjhijkdicmbbiaaKaf
import Derived.OpenShut
import Derived.ChangeSame

namespace Go.Proofs.Ytjhijkdicmbbiaa
open Go Vx Go.RowKit
def tMd (K : Nat) (m : Int) (row : Nat → List Value) : Bool := fineB m && (Nat.beq K K && (okLs K row && decide ((K : Int) ≤ m)))
def sD (f : Nat → Int) : Nat → List Value := shiftR 0 (dRow f)
def dsY (n1 n2 : Nat) (o1 o2 : Bool) (c1 c2 f : Nat → Int) (m : Int) : St := stOf 54 [(6, pt 2), (7, vI 0)] [Ir o1 n1 c1, Ir o2 n2 c2, .cells true 0 [vI m, SI 3 (m.toNat / 3)], .rows true true 1 (m.toNat / 3) (iRow f)]
def dsF (n1 n2 : Nat) (o1 o2 : Bool) (c1 c2 : Nat → Int) (e : Int) : St := stOf 54 [(6, pt 2), (7, vI e)] [Ir o1 n1 c1, Ir o2 n2 c2, .cells true 0 [vI 0, .slice none 0 0], .no]
theorem dsEnd (n1 n2 : Nat) (o1 o2 : Bool) (c1 c2 f : Nat → Int) (m : Int) (K : Nat) : roundR ((Cd4 Try.prog).into 24 2) 60 (seqDrop 5 (dsB Try.prog)) [6, 7] [6, 7] [.fix 0, .fix 1, .slot 6, .cell 2 1] [.fix 0, .fix 1, .slot 6, .cell 2 1] (dsZ n1 n2 o1 o2 c1 c2 m K (dRow f)) = gd (lk K) (gd (tMd K m (sD f)) (match allR (m.toNat / 3) (cofE (m.toNat / 6) m.toNat (cut K (lOf K (sD f)))) with
  | true => some (.ret, dsY n1 n2 o1 o2 c1 c2 (cofE (m.toNat / 6) m.toNat (cut K (lOf K (sD f)))) m)
  | false => some (.ret, dsF n1 n2 o1 o2 c1 c2 4))) := by kernel_rfl
theorem dsRet (n1 n2 : Nat) (o1 o2 : Bool) (c1 c2 f : Nat → Int) (m : Int) : (retA Try.prog Try.f24 (.ret, dsY n1 n2 o1 o2 c1 c2 f m)).res = some (rgV m (SI 3 (m.toNat / 3)) 0, [Ir o1 n1 c1, Ir o2 n2 c2, .cells true 0 [vI m, SI 3 (m.toNat / 3)], .rows true true 1 (m.toNat / 3) (iRow f)]) := by kernel_rfl
theorem dsRetF (n1 n2 : Nat) (o1 o2 : Bool) (c1 c2 : Nat → Int) (e : Int) : (retA Try.prog Try.f24 (.ret, dsF n1 n2 o1 o2 c1 c2 e)).res = some (rgE e, [Ir o1 n1 c1, Ir o2 n2 c2, .cells true 0 [vI 0, .slice none 0 0], .no]) := by kernel_rfl
theorem dsRetE (n1 n2 : Nat) (o1 o2 : Bool) (c1 c2 : Nat → Int) (e : Int) : (retA Try.prog Try.f24 (.ret, dsE n1 n2 o1 o2 c1 c2 e)).res = some (rgE e, [Ir o1 n1 c1, Ir o2 n2 c2, .cells true 0 [vI 0, .slice none 0 0]]) := by kernel_rfl
theorem dsTidyE (n1 n2 : Nat) (o1 o2 : Bool) (c1 c2 : Nat → Int) (e : Int) : (tidyA 2 [.fix 0, .fix 1] (rgE e, [Ir o1 n1 c1, Ir o2 n2 c2, .cells true 0 [vI 0, .slice none 0 0]])).res = some (rgE e, [Ir o1 n1 c1, Ir o2 n2 c2]) := by kernel_rfl
theorem dsNL (n2 : Nat) (o2 : Bool) (M1 M2 : Int) (c2 : Nat → Int) (n : Int) : exT ((Cd4 Try.prog).at 24) 60 Try.f24 [.agg #[vI M1, .slice none 0 0], .agg #[vI M2, SI 0 n2], vI n] [Ir o2 n2 c2] [.fix 0] = some (rgE 3, [Ir o2 n2 c2]) := by kernel_rfl
theorem dsNN (M1 M2 n : Int) : exT ((Cd4 Try.prog).at 24) 60 Try.f24 [.agg #[vI M1, .slice none 0 0], .agg #[vI M2, .slice none 0 0], vI n] [] [] = some (rgE 3, []) := by kernel_rfl
theorem dsFor : isFor 0 (stmt 4 (dsB Try.prog)) = true := by kernel_rfl
theorem dsHas : hasStmt 1 (dsB Try.prog) = true ∧ hasStmt 4 (dsB Try.prog) = true := ⟨by kernel_rfl, by kernel_rfl⟩
theorem dsIn : InBody ((Cd4 Try.prog).into 24 2) (forHead (stmt 4 (dsB Try.prog))) ∧ InBody ((Cd4 Try.prog).into 24 2) (forBody (stmt 4 (dsB Try.prog))) := for_in (C := Cd4 Try.prog) (f := 24) (B := 2) (id := 0) (k := 4) (fn := Try.f24) (b := dsB Try.prog) Try.func24 ds_eq dsFor
/-- The sum so far. -/
def dsG (f b : Nat → Int) (n : Int) (i q : Nat) : Int := if q < i then f q + n * b q else f q
theorem dsG_step (f b : Nat → Int) (n : Int) (i q : Nat) : putG (dsG f b n i) i (dsG f b n i i + n * b i) q = dsG f b n (i + 1) q := by
  unfold putG dsG
  by_cases h : q = i
  · subst h; rw [if_pos rfl, if_neg (by omega), if_pos (by omega)]
  · rw [if_neg h]
    by_cases k : q < i
    · rw [if_pos k, if_pos (by omega)]
    · rw [if_neg k, if_neg (by omega)]
theorem dsG_none (f b : Nat → Int) (n : Int) : dsG f b n 0 = f := by
  funext q
  unfold dsG
  rw [if_neg (Nat.not_lt_zero _)]
theorem dsLoop (n1 n2 : Nat) (o1 o2 : Bool) (M2 : Int) (c1 c2 f b : Nat → Int) (n m : Int) (hb2 : frmB M2 n2 c2 = true) (hfm : fineB m = true) (h3 : (m % M2 == 0) = true) (hb : b = fineP (m.toNat / M2.toNat) c2 n2) (hn : n = 1 ∨ n = -1)
    (bf : ∀ i, -4503599627370496 ≤ f i ∧ f i ≤ 4503599627370496) (bb : ∀ i, -4503599627370496 ≤ b i ∧ b i ≤ 4503599627370496) : CodeSem Try.prog 2 (stmt 4 (dsB Try.prog)) (dsS2 n1 n2 o1 o2 M2 c1 c2 n m m.toNat (dRow f)) .normal (dsZ n1 n2 o1 o2 c1 c2 m m.toNat (dRow (dsG f b n m.toNat))) := by
  have hm := fine_cases hfm
  have r0 := dsHead n1 n2 o1 o2 M2 c1 c2 f n m
  have ht : tFd n2 m M2 (sI c2) = true := by
    have hs : okIs n2 (sI c2) = true := (shift0 c2 n2).1
    unfold tFd
    rw [Nat.beq_refl, hs, hfm, (sI_ok c2 n2).2, hb2, h3]
    rfl
  rw [lk2_ok, ht, (sI_ok c2 n2).2, ← hb] at r0
  simp only [gd_true] at r0
  have hh := end_rule' (C := Cd4 Try.prog) okd4 (f := 24) (B := 2) dsIn.1 r0
  have hr : ∀ i, i < m.toNat → ∃ s, roundR ((Cd4 Try.prog).into 24 2) 60 (forBody (stmt 4 (dsB Try.prog))) [2, 6, 7, 8, 9, 31, 32, 33] [6, 7, 8, 9] spX [.fix 0, .fix 1, .slot 6, .slot 9] (dsX n1 n2 o1 o2 c1 c2 n m m.toNat (dRow (dsG f b n i)) b (i : Int)) = some (.normal, s) ∧ StLike s (dsX n1 n2 o1 o2 c1 c2 n m m.toNat (dRow (dsG f b n (i + 1))) b ((i + 1 : Nat) : Int)) := fun i hi => by
    have r := dsR n1 n2 o1 o2 c1 c2 (dsG f b n i) b n m m.toNat i
    have e0 : dsG f b n i i = f i := by unfold dsG; rw [if_neg (by omega)]
    have k1 := bf i
    have k2 := bb i
    rw [show decide ((i : Int) < (m.toNat : Int)) = true by simp; omega, boundsI_ok (n := m.toNat) (i := (i : Int)) (by omega)] at r
    simp only [gd_true, Int.toNat_natCast] at r
    rw [okv_in (v := dsG f b n i i) (by omega), okv_in (v := b i) (by omega), show (n == 1 || n == -1) = true by rcases hn with h | h <;> subst h <;> decide] at r
    rw [dv_eq, dv_eq] at r
    refine ⟨_, r, ?_⟩
    rw [show W ((i : Int) + 1) = ((i + 1 : Nat) : Int) by rw [W_in (by omega)]; simp]
    refine ⟨rfl, .refl _, .refl _, .refl _, .rows fun q _ => ?_, .refl _, trivial⟩
    exact (stR_d (dsG f b n i) i _ q).trans (congrFun (congrArg dRow (funext fun q => dsG_step f b n i q)) q)
  have hE := dsR n1 n2 o1 o2 c1 c2 (dsG f b n m.toNat) b n m m.toNat m.toNat
  rw [show decide ((m.toNat : Int) < (m.toNat : Int)) = false by simp] at hE
  have hl := run_loop (C := Cd4 Try.prog) okd4 (f := 24) (B := 2) (m := 60) dsIn.2 (by simp) m.toNat (fun i => dsX n1 n2 o1 o2 c1 c2 n m m.toNat (dRow (dsG f b n i)) b (i : Int)) hr hE
  rw [dsG_none] at hl
  exact for_rule dsFor hh hl
theorem fineP_rg {k n : Nat} {c : Nat → Int} (h : allR n c = true) (q : Nat) : -4503599627370496 ≤ fineP k c n q ∧ fineP k c n q ≤ 4503599627370496 := by
  unfold fineP
  by_cases hq : q % k = 0 ∧ q / k < n
  · rw [if_pos hq]; exact inRg_iff.1 (List.all_eq_true.1 h _ (List.mem_range.2 hq.2))
  · rw [if_neg hq]; omega
def docC (M1 M2 : Int) (n1 n2 : Nat) (c1 c2 : Nat → Int) (n : Int) : Nat → Int := cofE ((mx M1 M2).toNat / 6) (mx M1 M2).toNat (fun q => fineP ((mx M1 M2).toNat / M1.toNat) c1 n1 q + n * fineP ((mx M1 M2).toNat / M2.toNat) c2 n2 q)
theorem cut_eq {e K : Nat} {g h : Nat → Int} (hg : ∀ i, i < K → g i = h i) : cofE e K g = cofE e K h := by
  have : cut K g = cut K h := by
    funext i
    unfold cut
    by_cases hi : i < K
    · rw [if_pos hi, if_pos hi, hg i hi]
    · rw [if_neg hi, if_neg hi]
  unfold cofE
  rw [this]
theorem sD_row (f : Nat → Int) (i : Nat) : sD f i = dRow f i := by simp [sD, shiftR]
theorem lOf_sD {K i : Nat} (f : Nat → Int) (hi : i < K) : lOf K (sD f) i = f i := by
  unfold lOf
  rw [if_pos hi]
  rw [sD_row]
  show decD (f i / 4503599627370496) (f i % 4503599627370496) = f i
  unfold decD
  omega
theorem okLs_sD {K : Nat} {f : Nat → Int} (hf : ∀ i, -18014398509481984 ≤ f i ∧ f i ≤ 18014398509481984) : okLs K (sD f) = true := List.all_eq_true.2 fun i _ => by
  rw [sD_row]
  show okL (f i / 4503599627370496) (f i % 4503599627370496) = true
  have := hf i
  unfold okL
  simp only [Bool.and_eq_true, decide_eq_true_eq]
  omega
theorem dsSem (n1 n2 : Nat) (o1 o2 : Bool) (M1 M2 : Int) (c1 c2 : Nat → Int) (n : Int) (h1 : frmB M1 n1 c1 = true) (h2 : frmB M2 n2 c2 = true) (hn : n = 1 ∨ n = -1) :
    (allR ((mx M1 M2).toNat / 3) (docC M1 M2 n1 n2 c1 c2 n) = true → MemSem Try.prog 24 [.agg #[vI M1, SI 0 n1], .agg #[vI M2, SI 1 n2], vI n] [Ir o1 n1 c1, Ir o2 n2 c2] (rgV (mx M1 M2) (SI 2 ((mx M1 M2).toNat / 3)) 0) [Ir o1 n1 c1, Ir o2 n2 c2, Ir true ((mx M1 M2).toNat / 3) (docC M1 M2 n1 n2 c1 c2 n)]) ∧
    (allR ((mx M1 M2).toNat / 3) (docC M1 M2 n1 n2 c1 c2 n) = false → MemSem Try.prog 24 [.agg #[vI M1, SI 0 n1], .agg #[vI M2, SI 1 n2], vI n] [Ir o1 n1 c1, Ir o2 n2 c2] (rgE 4) [Ir o1 n1 c1, Ir o2 n2 c2]) := by
  obtain ⟨f1, e1, r1⟩ := frm_fine h1
  obtain ⟨f2, e2, r2⟩ := frm_fine h2
  obtain ⟨fm, q1, q2⟩ := mx_ok f1 f2
  have hm := fine_cases fm
  have p1 := dsP1 n1 n2 o1 o2 M1 M2 c1 c2 n
  rw [lk2_ok, lk2_ok, (sI_ok c1 n1).1, (sI_ok c1 n1).2, (sI_ok c2 n2).1, (sI_ok c2 n2).2, h1, h2] at p1
  have p2 := dsP2 n1 n2 o1 o2 M1 M2 c1 c2 n
  have ht : tFd n1 (mx M1 M2) M1 (sI c1) = true := by
    have hs : okIs n1 (sI c1) = true := (shift0 c1 n1).1
    unfold tFd
    rw [Nat.beq_refl, hs, fm, (sI_ok c1 n1).2, h1, q1]
    rfl
  rw [lk2_ok, ht, (sI_ok c1 n1).2] at p2
  simp only [gd_true] at p2
  have b1 := fun i => fineP_rg (k := (mx M1 M2).toNat / M1.toNat) r1 i
  have b2 := fun i => fineP_rg (k := (mx M1 M2).toNat / M2.toNat) r2 i
  have hl := dsLoop n1 n2 o1 o2 M2 c1 c2 (fineP ((mx M1 M2).toNat / M1.toNat) c1 n1) (fineP ((mx M1 M2).toNat / M2.toNat) c2 n2) n (mx M1 M2) h2 fm q2 rfl hn b1 b2
  have hE := dsEnd n1 n2 o1 o2 c1 c2 (dsG (fineP ((mx M1 M2).toNat / M1.toNat) c1 n1) (fineP ((mx M1 M2).toNat / M2.toNat) c2 n2) n (mx M1 M2).toNat) (mx M1 M2) (mx M1 M2).toNat
  have hlk : lk (mx M1 M2).toNat = true := by unfold lk; simp [Nat.ble_eq]
  have hg : ∀ i, -18014398509481984 ≤ dsG (fineP ((mx M1 M2).toNat / M1.toNat) c1 n1) (fineP ((mx M1 M2).toNat / M2.toNat) c2 n2) n (mx M1 M2).toNat i ∧ dsG (fineP ((mx M1 M2).toNat / M1.toNat) c1 n1) (fineP ((mx M1 M2).toNat / M2.toNat) c2 n2) n (mx M1 M2).toNat i ≤ 18014398509481984 := fun i => by
    have x := b1 i
    have y := b2 i
    unfold dsG
    by_cases hi : i < (mx M1 M2).toNat
    · rw [if_pos hi]; rcases hn with h | h <;> subst h <;> omega
    · rw [if_neg hi]; omega
  have htm : tMd (mx M1 M2).toNat (mx M1 M2) (sD (dsG (fineP ((mx M1 M2).toNat / M1.toNat) c1 n1) (fineP ((mx M1 M2).toNat / M2.toNat) c2 n2) n (mx M1 M2).toNat)) = true := by
    unfold tMd
    rw [fm, Nat.beq_refl, okLs_sD hg, decide_eq_true (by omega)]
    rfl
  have hcof : cofE ((mx M1 M2).toNat / 6) (mx M1 M2).toNat (cut (mx M1 M2).toNat (lOf (mx M1 M2).toNat (sD (dsG (fineP ((mx M1 M2).toNat / M1.toNat) c1 n1) (fineP ((mx M1 M2).toNat / M2.toNat) c2 n2) n (mx M1 M2).toNat)))) = docC M1 M2 n1 n2 c1 c2 n := by
    refine cut_eq fun i hi => ?_
    unfold cut
    rw [if_pos hi, lOf_sD _ hi]
    unfold dsG
    rw [if_pos hi]
  rw [hlk, htm, hcof] at hE
  simp only [gd_true] at hE
  have body0 : InBody ((Cd4 Try.prog).into 24 2) (dsB Try.prog) := Or.inl ⟨Try.f24, dsB Try.prog, Try.func24, ds_eq, fun _ hx => hx⟩
  have front : ∀ {s}, CodeSem Try.prog 2 (seqDrop 5 (dsB Try.prog)) (dsZ n1 n2 o1 o2 c1 c2 (mx M1 M2) (mx M1 M2).toNat (dRow (dsG (fineP ((mx M1 M2).toNat / M1.toNat) c1 n1) (fineP ((mx M1 M2).toNat / M2.toNat) c2 n2) n (mx M1 M2).toNat))) .ret s → CodeSem Try.prog 2 (dsB Try.prog) (enter Try.f24 [.agg #[vI M1, SI 0 n1], .agg #[vI M2, SI 1 n2], vI n] [Ir o1 n1 c1, Ir o2 n2 c2]) .ret s := fun hs =>
    seg_rule (C := Cd4 Try.prog) okd4 (f := 24) (B := 2) (k := 1) body0 (dsP0 n1 n2 o1 o2 M1 M2 c1 c2 n) (stmt_rule dsHas.1 (end_rule' (C := Cd4 Try.prog) okd4 (f := 24) (B := 2) (stmt_in Try.func24 ds_eq) p1) (seg_rule (C := Cd4 Try.prog) okd4 (f := 24) (B := 2) (k := 2) (bodyOf_in Try.func24 ds_eq) p2 (by rw [seqDrop_drop]; exact stmt_rule dsHas.2 hl hs)))
  refine ⟨fun hA => ?_, fun hA => ?_⟩
  · rw [hA] at hE
    exact (body_mem (m := [Ir o1 n1 c1, Ir o2 n2 c2]) (args := [.agg #[vI M1, SI 0 n1], .agg #[vI M2, SI 1 n2], vI n]) (f := 24) Try.func24 ds_eq (by kernel_rfl) (front (end_rule (C := Cd4 Try.prog) okd4 (f := 24) (B := 2) (bodyOf_in Try.func24 ds_eq) hE)) (dsRet n1 n2 o1 o2 c1 c2 _ (mx M1 M2))).tidy (adTidy n1 n2 o1 o2 c1 c2 _ (mx M1 M2))
  · rw [hA] at hE
    exact (body_mem (m := [Ir o1 n1 c1, Ir o2 n2 c2]) (args := [.agg #[vI M1, SI 0 n1], .agg #[vI M2, SI 1 n2], vI n]) (f := 24) Try.func24 ds_eq (by kernel_rfl) (front (end_rule (C := Cd4 Try.prog) okd4 (f := 24) (B := 2) (bodyOf_in Try.func24 ds_eq) hE)) (dsRetF n1 n2 o1 o2 c1 c2 4)).tidy (adTidyE n1 n2 o1 o2 c1 c2 4)
end Go.Proofs.Ytjhijkdicmbbiaa


namespace Go.Proofs.Ytjhijkdicmbbiaa
open Go Vx Go.RowKit
theorem dsLNx (n2 : Nat) (o2 : Bool) (M1 M2 : Int) (c2 : Nat → Int) (n : Int) : exT ((Cd4 Try.prog).at 24) 60 Try.f24 [.agg #[vI M1, SI 0 n2], .agg #[vI M2, .slice none 0 0], vI n] [Ir o2 n2 c2] [.fix 0] = gd (lk2 n2) (gd (tI n2 (sI c2)) (match !frmB M1 n2 (iOf (sI c2)) with
  | true => some (rgE 3, [Ir o2 n2 c2])
  | false => some (rgE 3, [Ir o2 n2 c2]))) := by kernel_rfl
theorem dsLN (n2 : Nat) (o2 : Bool) (M1 M2 : Int) (c2 : Nat → Int) (n : Int) : exT ((Cd4 Try.prog).at 24) 60 Try.f24 [.agg #[vI M1, SI 0 n2], .agg #[vI M2, .slice none 0 0], vI n] [Ir o2 n2 c2] [.fix 0] = some (rgE 3, [Ir o2 n2 c2]) := by
  rw [dsLNx, lk2_ok, (sI_ok c2 n2).1, (sI_ok c2 n2).2]
  cases frmB M1 n2 c2 <;> rfl
theorem dsErr (n1 n2 : Nat) (o1 o2 : Bool) (M1 M2 : Int) (c1 c2 : Nat → Int) (n : Int) (h : frmB M1 n1 c1 = false ∨ (frmB M1 n1 c1 = true ∧ frmB M2 n2 c2 = false)) : MemSem Try.prog 24 [.agg #[vI M1, SI 0 n1], .agg #[vI M2, SI 1 n2], vI n] [Ir o1 n1 c1, Ir o2 n2 c2] (rgE 3) [Ir o1 n1 c1, Ir o2 n2 c2] := by
  have p1 := dsP1 n1 n2 o1 o2 M1 M2 c1 c2 n
  rw [lk2_ok, lk2_ok, (sI_ok c1 n1).1, (sI_ok c1 n1).2, (sI_ok c2 n2).1, (sI_ok c2 n2).2] at p1
  have p1' : roundR ((Cd4 Try.prog).into 24 2) 60 (stmt 1 (dsB Try.prog)) [2, 3, 4, 6, 7] [6, 7] spS [.fix 0, .fix 1, .slot 6] (dsS n1 n2 o1 o2 M1 M2 c1 c2 n) = some (.ret, dsE n1 n2 o1 o2 c1 c2 3) := by
    rcases h with h | ⟨h, k⟩
    · rw [h] at p1; exact p1
    · rw [h, k] at p1; exact p1
  have body0 : InBody ((Cd4 Try.prog).into 24 2) (dsB Try.prog) := Or.inl ⟨Try.f24, dsB Try.prog, Try.func24, ds_eq, fun _ hx => hx⟩
  exact (body_mem (m := [Ir o1 n1 c1, Ir o2 n2 c2]) (args := [.agg #[vI M1, SI 0 n1], .agg #[vI M2, SI 1 n2], vI n]) (f := 24) Try.func24 ds_eq (by kernel_rfl) (seg_rule (C := Cd4 Try.prog) okd4 (f := 24) (B := 2) (k := 1) body0 (dsP0 n1 n2 o1 o2 M1 M2 c1 c2 n) (stmt_out dsHas.1 (end_rule' (C := Cd4 Try.prog) okd4 (f := 24) (B := 2) (stmt_in Try.func24 ds_eq) p1') (by simp))) (dsRetE n1 n2 o1 o2 c1 c2 3)).tidy (dsTidyE n1 n2 o1 o2 c1 c2 3)
def docSF : List Value → Mem → Option (Ans (Value × Mem))
  | [.agg a, .agg b, .int .i64 n], mm => match a.toList, b.toList, mm with
    | [.int .i64 _, .slice none 0 0], [.int .i64 _, .slice none 0 0], [] => some (.out (rgE 3, []))
    | [.int .i64 _, .slice none 0 0], [.int .i64 _, .slice (some ⟨0, 0, some 0⟩) N 1], [.rows own true 1 N2 row] => some (.br (Nat.beq N N2 && okIs N row) (.out (rgE 3, [.rows own true 1 N row])) .fail)
    | [.int .i64 _, .slice (some ⟨0, 0, some 0⟩) N 1], [.int .i64 _, .slice none 0 0], [.rows own true 1 N2 row] => some (.br (Nat.beq N N2 && okIs N row) (.out (rgE 3, [.rows own true 1 N row])) .fail)
    | [.int .i64 M1, .slice (some ⟨0, 0, some 0⟩) N 1], [.int .i64 M2, .slice (some ⟨1, 0, some 0⟩) K 1], [.rows own true 1 N2 row, .rows own2 true 1 K2 row2] => some (.br ((n == 1 || n == -1) && (Nat.beq N N2 && (okIs N row && (Nat.beq K K2 && okIs K row2)))) (.br (frmB M1 N (iOf row)) (.br (frmB M2 K (iOf row2)) (.br (allR ((mx M1 M2).toNat / 3) (docC M1 M2 N K (iOf row) (iOf row2) n))
        (.out (rgV (mx M1 M2) (SI 2 ((mx M1 M2).toNat / 3)) 0, [.rows own true 1 N row, .rows own2 true 1 K row2, .rows true true 1 ((mx M1 M2).toNat / 3) (iRow (docC M1 M2 N K (iOf row) (iOf row2) n))]))
        (.out (rgE 4, [.rows own true 1 N row, .rows own2 true 1 K row2]))) (.out (rgE 3, [.rows own true 1 N row, .rows own2 true 1 K row2]))) (.out (rgE 3, [.rows own true 1 N row, .rows own2 true 1 K row2]))) .fail)
    | _, _, _ => none
  | _, _ => none
theorem docSF_ok {args : List Value} {m : Mem} {ans : Ans (Value × Mem)} {v : Value} {m' : Mem} (h : docSF args m = some ans) (hr : ans.res = some (v, m')) : MemSem Try.prog 24 args m v m' := by
  unfold docSF at h
  split at h
  · rename_i mm a b n
    split at h
    · rename_i M1 M2 e1 e2
      have ha : a = #[vI M1, .slice none 0 0] := by apply Array.ext'; simpa [vI] using e1
      have hb : b = #[vI M2, .slice none 0 0] := by apply Array.ext'; simpa [vI] using e2
      subst ha hb
      simp only [Option.some.injEq] at h
      subst h
      simp only [Ans.res, Option.some.injEq, Prod.mk.injEq] at hr
      obtain ⟨rfl, rfl⟩ := hr
      exact exT_ok okd4 Try.func24 (by kernel_rfl) (dsNN M1 M2 n)
    · rename_i M1 M2 N own N2 row e1 e2
      have ha : a = #[vI M1, .slice none 0 0] := by apply Array.ext'; simpa [vI] using e1
      have hb : b = #[vI M2, SI 0 N] := by apply Array.ext'; simpa [SI, vI] using e2
      subst ha hb
      simp only [Option.some.injEq] at h
      subst h
      rcases Ans.br_some hr with ⟨hc, g⟩ | ⟨_, g⟩ <;> clear hr
      rotate_left
      · simp [Ans.res] at g
      simp only [Bool.and_eq_true] at hc
      have e1 := Nat.eq_of_beq_eq_true hc.1
      subst e1
      simp only [Ans.res, Option.some.injEq, Prod.mk.injEq] at g
      obtain ⟨rfl, rfl⟩ := g
      have ht := dsNL N own M1 M2 (iOf row) n
      have l1 : LikeL [.rows own true 1 N row] [Ir own N (iOf row)] := ⟨.rows (is_like hc.2), trivial⟩
      exact (MemSem.like (exT_ok okd4 Try.func24 (by kernel_rfl) ht) l1).likes ⟨.rows fun i hi => (is_like hc.2 i hi).symm, trivial⟩
    · rename_i M1 N M2 own N2 row e1 e2
      have ha : a = #[vI M1, SI 0 N] := by apply Array.ext'; simpa [SI, vI] using e1
      have hb : b = #[vI M2, .slice none 0 0] := by apply Array.ext'; simpa [vI] using e2
      subst ha hb
      simp only [Option.some.injEq] at h
      subst h
      rcases Ans.br_some hr with ⟨hc, g⟩ | ⟨_, g⟩ <;> clear hr
      rotate_left
      · simp [Ans.res] at g
      simp only [Bool.and_eq_true] at hc
      have e1 := Nat.eq_of_beq_eq_true hc.1
      subst e1
      simp only [Ans.res, Option.some.injEq, Prod.mk.injEq] at g
      obtain ⟨rfl, rfl⟩ := g
      have ht := dsLN N own M1 M2 (iOf row) n
      have l1 : LikeL [.rows own true 1 N row] [Ir own N (iOf row)] := ⟨.rows (is_like hc.2), trivial⟩
      exact (MemSem.like (exT_ok okd4 Try.func24 (by kernel_rfl) ht) l1).likes ⟨.rows fun i hi => (is_like hc.2 i hi).symm, trivial⟩
    · rename_i M1 N M2 K own N2 row own2 K2 row2 e1 e2
      have ha : a = #[vI M1, SI 0 N] := by apply Array.ext'; simpa [SI, vI] using e1
      have hb : b = #[vI M2, SI 1 K] := by apply Array.ext'; simpa [SI, vI] using e2
      subst ha hb
      simp only [Option.some.injEq] at h
      subst h
      rcases Ans.br_some hr with ⟨hc, g⟩ | ⟨_, g⟩ <;> clear hr
      rotate_left
      · simp [Ans.res] at g
      simp only [Bool.and_eq_true, Bool.or_eq_true, beq_iff_eq] at hc
      obtain ⟨cn, c1, c2, c3, c4⟩ := hc
      have e1 := Nat.eq_of_beq_eq_true c1
      have e2 := Nat.eq_of_beq_eq_true c3
      subst e1 e2
      have l1 : LikeL [.rows own true 1 N row, .rows own2 true 1 K row2] [Ir own N (iOf row), Ir own2 K (iOf row2)] := ⟨.rows (is_like c2), .rows (is_like c4), trivial⟩
      have b1 : Like (Ir own N (iOf row)) (.rows own true 1 N row) := .rows fun i hi => (is_like c2 i hi).symm
      have b2 : Like (Ir own2 K (iOf row2)) (.rows own2 true 1 K row2) := .rows fun i hi => (is_like c4 i hi).symm
      rcases Ans.br_some g with ⟨h1, g1⟩ | ⟨h1, g1⟩ <;> clear g
      · rcases Ans.br_some g1 with ⟨h2, g2⟩ | ⟨h2, g2⟩ <;> clear g1
        · have key := dsSem N K own own2 M1 M2 (iOf row) (iOf row2) n h1 h2 cn
          rcases Ans.br_some g2 with ⟨h3, g3⟩ | ⟨h3, g3⟩ <;> clear g2 <;> simp only [Ans.res, Option.some.injEq, Prod.mk.injEq] at g3 <;> obtain ⟨rfl, rfl⟩ := g3
          · exact (MemSem.like (key.1 h3) l1).likes ⟨b1, b2, .refl _, trivial⟩
          · exact (MemSem.like (key.2 h3) l1).likes ⟨b1, b2, trivial⟩
        · simp only [Ans.res, Option.some.injEq, Prod.mk.injEq] at g2
          obtain ⟨rfl, rfl⟩ := g2
          exact (MemSem.like (dsErr N K own own2 M1 M2 (iOf row) (iOf row2) n (Or.inr ⟨h1, h2⟩)) l1).likes ⟨b1, b2, trivial⟩
      · simp only [Ans.res, Option.some.injEq, Prod.mk.injEq] at g1
        obtain ⟨rfl, rfl⟩ := g1
        exact (MemSem.like (dsErr N K own own2 M1 M2 (iOf row) (iOf row2) n (Or.inl h1)) l1).likes ⟨b1, b2, trivial⟩
    · cases h
  · cases h
def Cr24 (P : Program) : Cx := (Cd4 P).addM 24 docSF
theorem okr24 : CxOk (Cr24 Try.prog) := Cx.addM_ok okd4 fun _ _ _ _ _ h hr => docSF_ok h hr
def Cd5 (P : Program) : Cx := (Cr24 P).lend 24
theorem okd5 : CxOk (Cd5 Try.prog) := Cx.lend_ok okr24 _
end Go.Proofs.Ytjhijkdicmbbiaa


namespace Go.Proofs.Ytjhijkdicmbbiaa
open Go Vx Go.RowKit
theorem mx_mul {M1 M2 : Int} (h1 : fineB M1 = true) (h2 : fineB M2 = true) : ((mx M1 M2).toNat = M1.toNat * ((mx M1 M2).toNat / M1.toNat) ∧ 1 ≤ (mx M1 M2).toNat / M1.toNat) ∧ ((mx M1 M2).toNat = M2.toNat * ((mx M1 M2).toNat / M2.toNat) ∧ 1 ≤ (mx M1 M2).toNat / M2.toNat) := by
  rcases fine_cases h1 with a | a | a | a <;> rcases fine_cases h2 with b | b | b | b <;> subst a b <;> decide
theorem fineP_zero {k n : Nat} (hk : 1 ≤ k) (c : Nat → Int) {p : Nat} (hp : n * k ≤ p) : fineP k c n p = 0 := by
  unfold fineP
  rw [if_neg]
  rintro ⟨_, h⟩
  have := (Nat.div_lt_iff_lt_mul (by omega)).1 h
  omega
theorem cof_self {e : Nat} {g : Nat → Int} (hg : ∀ p, 2 * e ≤ p → g p = 0) {q : Nat} (hq : q < 2 * e) : cofE e (6 * e) g q = g q := by
  have hz : ∀ p, 2 * e ≤ p → cut (6 * e) g p = 0 := fun p hp => by
    unfold cut
    by_cases h : p < 6 * e
    · rw [if_pos h]; exact hg p hp
    · rw [if_neg h]
  have h0 : cut (6 * e) g q = g q := by unfold cut; rw [if_pos (by omega)]
  unfold cofE cofZ
  by_cases h : q < e
  · rw [if_pos h, h0, hz _ (by omega), hz _ (by omega), hz _ (by omega)]; omega
  · rw [if_neg h, h0, hz _ (by omega), hz _ (by omega), hz _ (by omega)]; omega
end Go.Proofs.Ytjhijkdicmbbiaa


namespace Go.Proofs.Ytjhijkdicmbbiaa
open Go Vx Go.RowKit
theorem e140 (h l : Int) : exFun ((Cd5 Try.prog).at 140) 60 Try.f140 [.agg #[vI h, vI l]] = some (.agg #[vI (W (h + l.fdiv 4503599627370496)), vI (and52 l)]) := by kernel_rfl
def okN (h l : Int) : Bool := (decide (-2305843009213693952 ≤ h) && decide (h ≤ 2305843009213693952)) && i64B l
def F140 : List Value → Option (Bool × Value)
  | [.agg a] => match a.toList with
    | [.int .i64 h, .int .i64 l] => some (okN h l, wD (decD h l))
    | _ => none
  | _ => none
def Cr140 (P : Program) : Cx := (Cd5 P).addR 140 F140
theorem okr140 : CxOk (Cr140 Try.prog) := Cx.addRa_ok okd5 (n := 60) Try.func140 (by kernel_rfl) fun args v h => by
  unfold F140 at h
  split at h
  · rename_i a
    split at h
    · rename_i h1 l1 ea
      simp only [Option.some.injEq, Prod.mk.injEq] at h
      obtain ⟨c1, rfl⟩ := h
      have ha : a = #[.int .i64 h1, .int .i64 l1] := by apply Array.ext'; simpa using ea
      subst ha
      unfold okN at c1
      simp only [Bool.and_eq_true, decide_eq_true_eq] at c1
      obtain ⟨c1, c2⟩ := c1
      have c2 := i64B_iff.1 c2
      refine (e140 h1 l1).trans ?_
      rw [fdiv52, and52_eq, W_in (by omega)]
      unfold wD decD
      rw [show (h1 * 4503599627370496 + l1) / 4503599627370496 = h1 + l1 / 4503599627370496 by omega, show (h1 * 4503599627370496 + l1) % 4503599627370496 = l1 % 4503599627370496 by omega]
    · cases h
  · cases h
def and26 (x : Int) : Int := W ((BitVec.ofInt IntKind.i64.bits x &&& BitVec.ofInt IntKind.i64.bits 67108863).toNat : Int)
theorem and26_eq (x : Int) : and26 x = x % 67108864 := by
  unfold and26
  rw [BitVec.toNat_and]
  have e1 : (BitVec.ofInt IntKind.i64.bits x).toNat = (x % 18446744073709551616).toNat := by
    rw [BitVec.toNat_ofInt]; rfl
  have e2 : (BitVec.ofInt IntKind.i64.bits 67108863).toNat = 2 ^ 26 - 1 := by decide
  rw [e1, e2, Nat.and_two_pow_sub_one_eq_mod, W_in (by omega)]
  omega
theorem fdiv26 (x : Int) : x.fdiv 67108864 = x / 67108864 := by
  rw [Int.fdiv_eq_ediv_of_nonneg _ (by decide)]
def mdl (a b : Int) : Int := W (W (a.fdiv 67108864 * and26 b) + W (and26 a * b.fdiv 67108864))
def lwl (a b : Int) : Int := W (and26 a * and26 b)
def hgh (a b : Int) : Int := W (a.fdiv 67108864 * b.fdiv 67108864)
def shl26 (x : Int) : Int := W (x * 67108864)
def prA (a b : Int) : Int := decD (hgh a b) 0 + 1 * decD ((mdl a b).fdiv 67108864) (shl26 (and26 (mdl a b)))
theorem e106 (a b : Int) : exFun ((Cr140 Try.prog).at 106) 60 Try.f106 [vI a, vI b] = gd' (okN 0 (lwl a b)) (gd' (okD (hgh a b) 0 && (okD ((mdl a b).fdiv 67108864) (shl26 (and26 (mdl a b))) && ((1 : Int) == 1 || (1 : Int) == -1))) (gd' (okD (prA a b / 4503599627370496) (prA a b % 4503599627370496) && (okD (decD 0 (lwl a b) / 4503599627370496) (decD 0 (lwl a b) % 4503599627370496) && ((1 : Int) == 1 || (1 : Int) == -1))) (some (wD (decD (prA a b / 4503599627370496) (prA a b % 4503599627370496) + 1 * decD (decD 0 (lwl a b) / 4503599627370496) (decD 0 (lwl a b) % 4503599627370496)))))) := by kernel_rfl
end Go.Proofs.Ytjhijkdicmbbiaa


namespace Go.Proofs.Ytjhijkdicmbbiaa
open Go Vx Go.RowKit
theorem abs_mul {x y A B : Int} (hx : -A ≤ x ∧ x ≤ A) (hy : -B ≤ y ∧ y ≤ B) : -(A * B) ≤ x * y ∧ x * y ≤ A * B := by
  have h1 : (A - x) * (B + y) ≥ 0 := Int.mul_nonneg (by omega) (by omega)
  have h2 : (A + x) * (B - y) ≥ 0 := Int.mul_nonneg (by omega) (by omega)
  have h3 : (A - x) * (B - y) ≥ 0 := Int.mul_nonneg (by omega) (by omega)
  have h4 : (A + x) * (B + y) ≥ 0 := Int.mul_nonneg (by omega) (by omega)
  have e1 : (A - x) * (B + y) = A * B + A * y - x * B - x * y := by grind
  have e2 : (A + x) * (B - y) = A * B - A * y + x * B - x * y := by grind
  have e3 : (A - x) * (B - y) = A * B - A * y - x * B + x * y := by grind
  have e4 : (A + x) * (B + y) = A * B + A * y + x * B + x * y := by grind
  generalize x * y = p at *
  generalize A * B = u at *
  generalize A * y = v at *
  generalize x * B = w at *
  omega
def in53 (n : Int) : Bool := decide (-9007199254740992 ≤ n) && decide (n ≤ 9007199254740992)
theorem in53_iff {n : Int} : in53 n = true ↔ -9007199254740992 ≤ n ∧ n ≤ 9007199254740992 := by simp [in53]
def F106 : List Value → Option (Bool × Value)
  | [.int .i64 a, .int .i64 b] => some (inRg a && in53 b, wD (a * b))
  | _ => none
theorem pr_all {a b : Int} (ha : inRg a = true) (hb : in53 b = true) : gd' (okN 0 (lwl a b)) (gd' (okD (hgh a b) 0 && (okD ((mdl a b).fdiv 67108864) (shl26 (and26 (mdl a b))) && ((1 : Int) == 1 || (1 : Int) == -1))) (gd' (okD (prA a b / 4503599627370496) (prA a b % 4503599627370496) && (okD (decD 0 (lwl a b) / 4503599627370496) (decD 0 (lwl a b) % 4503599627370496) && ((1 : Int) == 1 || (1 : Int) == -1))) (some (wD (decD (prA a b / 4503599627370496) (prA a b % 4503599627370496) + 1 * decD (decD 0 (lwl a b) / 4503599627370496) (decD 0 (lwl a b) % 4503599627370496)))))) = some (wD (a * b)) := by
  have ha := inRg_iff.1 ha
  have hb := in53_iff.1 hb
  obtain ⟨p, q, hp, hq, hq2⟩ : ∃ p q : Int, a / 67108864 = p ∧ a % 67108864 = q ∧ a = p * 67108864 + q := ⟨_, _, rfl, rfl, by omega⟩
  obtain ⟨r, s, hr, hs, hs2⟩ : ∃ r s : Int, b / 67108864 = r ∧ b % 67108864 = s ∧ b = r * 67108864 + s := ⟨_, _, rfl, rfl, by omega⟩
  have bp : -67108864 ≤ p ∧ p ≤ 67108864 := by omega
  have bq : -67108864 ≤ q ∧ q ≤ 67108864 := by omega
  have bq' : 0 ≤ q ∧ q ≤ 67108863 := by omega
  have br : -134217728 ≤ r ∧ r ≤ 134217728 := by omega
  have bs : -67108864 ≤ s ∧ s ≤ 67108864 := by omega
  have bs' : 0 ≤ s ∧ s ≤ 67108863 := by omega
  have hv : a * b = p * r * 4503599627370496 + (p * s + q * r) * 67108864 + q * s := by
    rw [hq2, hs2]; grind
  have k1 := abs_mul bp bs
  have k2 := abs_mul bq br
  have k3 := abs_mul bp br
  have k4 : 0 ≤ q * s ∧ q * s ≤ 67108863 * 67108863 := ⟨Int.mul_nonneg bq'.1 bs'.1, Int.mul_le_mul bq'.2 bs'.2 bs'.1 (by omega)⟩
  have em : mdl a b = p * s + q * r := by
    unfold mdl
    rw [fdiv26, fdiv26, and26_eq, and26_eq, hp, hq, hr, hs, W_in (n := p * s) (by omega), W_in (n := q * r) (by omega), W_in (by omega)]
  have el : lwl a b = q * s := by
    unfold lwl
    rw [and26_eq, and26_eq, hq, hs, W_in (by omega)]
  have eh : hgh a b = p * r := by
    unfold hgh
    rw [fdiv26, fdiv26, hp, hr, W_in (by omega)]
  rw [em, el, eh, hv, fdiv26, and26_eq]
  have es : shl26 ((p * s + q * r) % 67108864) = (p * s + q * r) % 67108864 * 67108864 := by
    unfold shl26
    rw [W_in (by omega)]
  rw [es]
  have ea : prA a b = p * r * 4503599627370496 + (p * s + q * r) * 67108864 := by
    unfold prA
    rw [em, eh, fdiv26, and26_eq, es]
    unfold decD
    omega
  rw [ea]
  have k5 : -13510798882111488 ≤ p * s + q * r ∧ p * s + q * r ≤ 13510798882111488 := by omega
  generalize p * s + q * r = m at *
  generalize p * r = h at *
  generalize q * s = l at *
  have t1 : okN 0 l = true := by
    unfold okN
    rw [i64B_iff.2 (by omega)]
    decide
  have t2 : okD h 0 = true := okD_iff.2 (by omega)
  have t3 : okD (m / 67108864) (m % 67108864 * 67108864) = true := okD_iff.2 (by omega)
  have t4 : okD ((h * 4503599627370496 + m * 67108864) / 4503599627370496) ((h * 4503599627370496 + m * 67108864) % 4503599627370496) = true := okD_iff.2 (by omega)
  have t5 : okD (decD 0 l / 4503599627370496) (decD 0 l % 4503599627370496) = true := okD_iff.2 (by unfold decD; omega)
  have b1 : ((1 : Int) == 1 || (1 : Int) == -1) = true := by decide
  rw [t1, t2, t3, t4, t5, b1]
  have f1 : decD ((h * 4503599627370496 + m * 67108864) / 4503599627370496) ((h * 4503599627370496 + m * 67108864) % 4503599627370496) = h * 4503599627370496 + m * 67108864 := by unfold decD; omega
  have f2 : decD (decD 0 l / 4503599627370496) (decD 0 l % 4503599627370496) = l := by unfold decD; omega
  rw [f1, f2, Int.one_mul]
  rfl
def Cr106 (P : Program) : Cx := (Cr140 P).addR 106 F106
theorem okr106 : CxOk (Cr106 Try.prog) := Cx.addRa_ok okr140 (n := 60) Try.func106 (by kernel_rfl) fun args v h => by
  unfold F106 at h
  split at h
  · rename_i a b
    simp only [Option.some.injEq, Prod.mk.injEq, Bool.and_eq_true] at h
    obtain ⟨⟨h1, h2⟩, rfl⟩ := h
    exact (e106 a b).trans (pr_all h1 h2)
  · cases h
theorem ngN (M : Int) : exT ((Cr106 Try.prog).at 38) 60 Try.f38 [.agg #[vI M, .slice none 0 0]] [] [] = some (rgE 3, []) := by kernel_rfl
def tTm (n : Nat) (row : Nat → List Value) : Bool := i64B (-1) && (Nat.beq n n && okIs n row)
theorem ngT (n : Nat) (o : Bool) (M : Int) (c : Nat → Int) : exT ((Cr106 Try.prog).at 38) 60 Try.f38 [.agg #[vI M, SI 0 n]] [Ir o n c] [.fix 0, .cell 2 1] = gd (lk2 n) (gd (tTm n (sI c)) (match frmB M n (iOf (sI c)) with
  | true => match allR n (timesC (-1) (iOf (sI c))) with
    | true => some (rgV M (SI 1 (M.toNat / 3)) 0, [Ir o n c, Ir true (M.toNat / 3) (timesC (-1) (iOf (sI c)))])
    | false => some (rgE 4, [Ir o n c, .no])
  | false => some (rgE 3, [Ir o n c, .no]))) := by kernel_rfl
end Go.Proofs.Ytjhijkdicmbbiaa


namespace Go.Proofs.Ytjhijkdicmbbiaa
open Go Vx Go.RowKit
theorem ng_all {M : Int} {n : Nat} {c : Nat → Int} (h : frmB M n c = true) : allR n (timesC (-1) c) = true := List.all_eq_true.2 fun i hi => by
  obtain ⟨_, _, r⟩ := frm_fine h
  have := inRg_iff.1 (List.all_eq_true.1 r i hi)
  unfold timesC
  exact inRg_iff.2 (by omega)
theorem ngE (n : Nat) (o : Bool) (M : Int) (c : Nat → Int) : exT ((Cr106 Try.prog).at 38) 60 Try.f38 [.agg #[vI M, SI 0 n]] [Ir o n c] [.fix 0] = gd (Nat.ble ((0 : Nat) + n) n && true && true) (gd (i64B (-1 : Int) && (Nat.beq n n && okIs n (shiftR (0 : Nat) (iRow c)))) ((match frmB M n (iOf (shiftR (0 : Nat) (iRow c))) with
      | true => (match allR n (timesC (-1 : Int) (iOf (shiftR (0 : Nat) (iRow c)))) with
        | true => some ((.tuple #[.agg #[vI (M), (Value.iface (0 : TypeId) Value.nilFunc)], vI ((0 : Int))], [.rows (o) true 1 (n) (iRow c)]))
        | false => some ((.tuple #[.agg #[vI ((0 : Int)), .slice none 0 0], vI ((4 : Int))], [.rows (o) true 1 (n) (iRow c)])))
      | false => some ((.tuple #[.agg #[vI ((0 : Int)), .slice none 0 0], vI ((3 : Int))], [.rows (o) true 1 (n) (iRow c)]))))) := by kernel_rfl
def negF : List Value → Mem → Option (Ans (Value × Mem))
  | [.agg a], mm => match a.toList, mm with
    | [.int .i64 _, .slice none 0 0], [] => some (.out (rgE 3, []))
    | [.int .i64 M, .slice (some ⟨0, 0, some 0⟩) N 1], [.rows own true 1 N2 row] => some (.br (Nat.beq N N2 && okIs N row) (.br (frmB M N (iOf row)) (.out (rgV M (SI 1 (M.toNat / 3)) 0, [.rows own true 1 N row, .rows true true 1 (M.toNat / 3) (iRow (timesC (-1) (iOf row)))])) (.out (rgE 3, [.rows own true 1 N row]))) .fail)
    | _, _ => none
  | _, _ => none
theorem ngSem (n : Nat) (o : Bool) (M : Int) (c : Nat → Int) : (frmB M n c = true → MemSem Try.prog 38 [.agg #[vI M, SI 0 n]] [Ir o n c] (rgV M (SI 1 (M.toNat / 3)) 0) [Ir o n c, Ir true (M.toNat / 3) (timesC (-1) c)]) ∧ (frmB M n c = false → MemSem Try.prog 38 [.agg #[vI M, SI 0 n]] [Ir o n c] (rgE 3) [Ir o n c]) := by
  have ht := ngT n o M c
  have he := ngE n o M c
  have h0 := (sI_ok c n).2
  have ho : okIs n (sI c) = true := (shift0 c n).1
  unfold sI at h0 ho
  rw [lk2_ok, show tTm n (sI c) = true by unfold tTm sI; rw [Nat.beq_refl, ho]; decide, show iOf (sI c) = c from h0] at ht
  rw [h0, ho, Nat.beq_refl, show (Nat.ble (0 + n) n && true && true) = true by simp [Nat.ble_eq]] at he
  refine ⟨fun h => ?_, fun h => ?_⟩
  · rw [h, ng_all h] at ht
    exact exT_ok okr106 Try.func38 (by kernel_rfl) ht
  · rw [h] at he
    exact exT_ok okr106 Try.func38 (by kernel_rfl) he
theorem negF_ok {args : List Value} {m : Mem} {ans : Ans (Value × Mem)} {v : Value} {m' : Mem} (h : negF args m = some ans) (hr : ans.res = some (v, m')) : MemSem Try.prog 38 args m v m' := by
  unfold negF at h
  split at h
  · rename_i mm a
    split at h
    · rename_i M e1
      have ha : a = #[vI M, .slice none 0 0] := by apply Array.ext'; simpa [vI] using e1
      subst ha
      simp only [Option.some.injEq] at h
      subst h
      simp only [Ans.res, Option.some.injEq, Prod.mk.injEq] at hr
      obtain ⟨rfl, rfl⟩ := hr
      exact exT_ok okr106 Try.func38 (by kernel_rfl) (ngN M)
    · rename_i M N own N2 row e1
      have ha : a = #[vI M, SI 0 N] := by apply Array.ext'; simpa [SI, vI] using e1
      subst ha
      simp only [Option.some.injEq] at h
      subst h
      rcases Ans.br_some hr with ⟨hc, g⟩ | ⟨_, g⟩ <;> clear hr
      rotate_left
      · simp [Ans.res] at g
      simp only [Bool.and_eq_true] at hc
      obtain ⟨c1, c2⟩ := hc
      have e1 := Nat.eq_of_beq_eq_true c1
      subst e1
      have l1 : LikeL [.rows own true 1 N row] [Ir own N (iOf row)] := ⟨.rows (is_like c2), trivial⟩
      have b1 : Like (Ir own N (iOf row)) (.rows own true 1 N row) := .rows fun i hi => (is_like c2 i hi).symm
      have key := ngSem N own M (iOf row)
      rcases Ans.br_some g with ⟨h1, g1⟩ | ⟨h1, g1⟩ <;> clear g <;> simp only [Ans.res, Option.some.injEq, Prod.mk.injEq] at g1 <;> obtain ⟨rfl, rfl⟩ := g1
      · exact (MemSem.like (key.1 h1) l1).likes ⟨b1, .refl _, trivial⟩
      · exact (MemSem.like (key.2 h1) l1).likes ⟨b1, trivial⟩
    · cases h
  · cases h
def Cr38 (P : Program) : Cx := (Cr106 P).addM 38 negF
theorem okr38 : CxOk (Cr38 Try.prog) := Cx.addM_ok okr106 fun _ _ _ _ _ h hr => negF_ok h hr
def Ce1 (P : Program) : Cx := (Cr38 P).lend 38
theorem oke1 : CxOk (Ce1 Try.prog) := Cx.lend_ok okr38 _
theorem sbNN (M1 M2 : Int) : exT ((Ce1 Try.prog).at 25) 60 Try.f25 [.agg #[vI M1, .slice none 0 0], .agg #[vI M2, .slice none 0 0]] [] [] = some ((.tuple #[.agg #[vI ((0 : Int)), .slice none 0 0], vI ((3 : Int))], [])) := by kernel_rfl
theorem sbNL (n2 : Nat) (o2 : Bool) (M1 M2 : Int) (c2 : Nat → Int) : exT ((Ce1 Try.prog).at 25) 60 Try.f25 [.agg #[vI M1, .slice none 0 0], .agg #[vI M2, SI 0 n2]] [Ir o2 n2 c2] [.fix 0] = gd (Nat.ble ((0 : Nat) + n2) n2 && true && true) (gd (Nat.beq n2 n2 && okIs n2 (shiftR (0 : Nat) (iRow c2))) ((match frmB M2 n2 (iOf (shiftR (0 : Nat) (iRow c2))) with
      | true => gd (Nat.ble ((0 : Nat) + Int.toNat M2 / (3 : Nat)) (Int.toNat M2 / (3 : Nat)) && true && true) (gd (Nat.beq (Int.toNat M2 / (3 : Nat)) (Int.toNat M2 / (3 : Nat)) &&
  okIs (Int.toNat M2 / (3 : Nat)) (shiftR (0 : Nat) (iRow (timesC (-1 : Int) (iOf (shiftR (0 : Nat) (iRow c2))))))) (some ((.tuple #[.agg #[vI ((0 : Int)), .slice none 0 0], vI ((3 : Int))], [.rows (o2) true 1 (n2) (iRow c2)]))))
      | false => some ((.tuple #[.agg #[vI ((0 : Int)), .slice none 0 0], vI ((3 : Int))], [.rows (o2) true 1 (n2) (iRow c2)]))))) := by kernel_rfl
theorem sbLN (n2 : Nat) (o2 : Bool) (M1 M2 : Int) (c2 : Nat → Int) : exT ((Ce1 Try.prog).at 25) 60 Try.f25 [.agg #[vI M1, SI 0 n2], .agg #[vI M2, .slice none 0 0]] [Ir o2 n2 c2] [.fix 0] = some ((.tuple #[.agg #[vI ((0 : Int)), .slice none 0 0], vI ((3 : Int))], [.rows (o2) true 1 (n2) (iRow c2)])) := by kernel_rfl
theorem sbLL (n1 n2 : Nat) (o1 o2 : Bool) (M1 M2 : Int) (c1 c2 : Nat → Int) : exT ((Ce1 Try.prog).at 25) 60 Try.f25 [.agg #[vI M1, SI 0 n1], .agg #[vI M2, SI 1 n2]] [Ir o1 n1 c1, Ir o2 n2 c2] [.fix 0, .fix 1, .cell 4 1] = gd (Nat.ble ((0 : Nat) + n2) n2 && true && true) (gd (Nat.beq n2 n2 && okIs n2 (shiftR (0 : Nat) (iRow c2))) ((match frmB M2 n2 (iOf (shiftR (0 : Nat) (iRow c2))) with
      | true => gd (Nat.ble ((0 : Nat) + n1) n1 && true &&
  (Nat.ble ((0 : Nat) + Int.toNat M2 / (3 : Nat)) (Int.toNat M2 / (3 : Nat)) && true && true)) (gd (Nat.beq n1 n1 &&
  (okIs n1 (shiftR (0 : Nat) (iRow c1)) &&
    (Nat.beq (Int.toNat M2 / (3 : Nat)) (Int.toNat M2 / (3 : Nat)) &&
      okIs (Int.toNat M2 / (3 : Nat)) (shiftR (0 : Nat) (iRow (timesC (-1 : Int) (iOf (shiftR (0 : Nat) (iRow c2))))))))) ((match frmB M1 n1 (iOf (shiftR (0 : Nat) (iRow c1))) with
            | true => (match frmB M2 (Int.toNat M2 / (3 : Nat))
  (iOf (shiftR (0 : Nat) (iRow (timesC (-1 : Int) (iOf (shiftR (0 : Nat) (iRow c2))))))) with
              | true => (match allR (Int.toNat (mx M1 M2) / (3 : Nat))
  (addC M1 M2 (iOf (shiftR (0 : Nat) (iRow c1)))
    (iOf (shiftR (0 : Nat) (iRow (timesC (-1 : Int) (iOf (shiftR (0 : Nat) (iRow c2)))))))) with
                | true => some ((.tuple #[.agg #[vI (mx M1 M2), SI 2 (Int.toNat (mx M1 M2) / (3 : Nat))], vI ((0 : Int))], [.rows (o1) true 1 (n1) (iRow c1), .rows (o2) true 1 (n2) (iRow c2), .rows true true 1 (Int.toNat (mx M1 M2) / (3 : Nat)) (iRow
  (addC M1 M2 (iOf (shiftR (0 : Nat) (iRow c1)))
    (iOf (shiftR (0 : Nat) (iRow (timesC (-1 : Int) (iOf (shiftR (0 : Nat) (iRow c2)))))))))]))
                | false => some ((.tuple #[.agg #[vI ((0 : Int)), .slice none 0 0], vI ((4 : Int))], [.rows (o1) true 1 (n1) (iRow c1), .rows (o2) true 1 (n2) (iRow c2), .no])))
              | false => some ((.tuple #[.agg #[vI ((0 : Int)), .slice none 0 0], vI ((3 : Int))], [.rows (o1) true 1 (n1) (iRow c1), .rows (o2) true 1 (n2) (iRow c2), .no])))
            | false => some ((.tuple #[.agg #[vI ((0 : Int)), .slice none 0 0], vI ((3 : Int))], [.rows (o1) true 1 (n1) (iRow c1), .rows (o2) true 1 (n2) (iRow c2), .no])))))
      | false => some ((.tuple #[.agg #[vI ((0 : Int)), .slice none 0 0], vI ((3 : Int))], [.rows (o1) true 1 (n1) (iRow c1), .rows (o2) true 1 (n2) (iRow c2), .no]))))) := by kernel_rfl
theorem sbLE (n1 n2 : Nat) (o1 o2 : Bool) (M1 M2 : Int) (c1 c2 : Nat → Int) : exT ((Ce1 Try.prog).at 25) 60 Try.f25 [.agg #[vI M1, SI 0 n1], .agg #[vI M2, SI 1 n2]] [Ir o1 n1 c1, Ir o2 n2 c2] [.fix 0, .fix 1] = gd (Nat.ble ((0 : Nat) + n2) n2 && true && true) (gd (Nat.beq n2 n2 && okIs n2 (shiftR (0 : Nat) (iRow c2))) ((match frmB M2 n2 (iOf (shiftR (0 : Nat) (iRow c2))) with
      | true => gd (Nat.ble ((0 : Nat) + n1) n1 && true &&
  (Nat.ble ((0 : Nat) + Int.toNat M2 / (3 : Nat)) (Int.toNat M2 / (3 : Nat)) && true && true)) (gd (Nat.beq n1 n1 &&
  (okIs n1 (shiftR (0 : Nat) (iRow c1)) &&
    (Nat.beq (Int.toNat M2 / (3 : Nat)) (Int.toNat M2 / (3 : Nat)) &&
      okIs (Int.toNat M2 / (3 : Nat)) (shiftR (0 : Nat) (iRow (timesC (-1 : Int) (iOf (shiftR (0 : Nat) (iRow c2))))))))) ((match frmB M1 n1 (iOf (shiftR (0 : Nat) (iRow c1))) with
            | true => (match frmB M2 (Int.toNat M2 / (3 : Nat))
  (iOf (shiftR (0 : Nat) (iRow (timesC (-1 : Int) (iOf (shiftR (0 : Nat) (iRow c2))))))) with
              | true => (match allR (Int.toNat (mx M1 M2) / (3 : Nat))
  (addC M1 M2 (iOf (shiftR (0 : Nat) (iRow c1)))
    (iOf (shiftR (0 : Nat) (iRow (timesC (-1 : Int) (iOf (shiftR (0 : Nat) (iRow c2)))))))) with
                | true => some ((.tuple #[.agg #[vI (mx M1 M2), (Value.iface (0 : TypeId) Value.nilFunc)], vI ((0 : Int))], [.rows (o1) true 1 (n1) (iRow c1), .rows (o2) true 1 (n2) (iRow c2)]))
                | false => some ((.tuple #[.agg #[vI ((0 : Int)), .slice none 0 0], vI ((4 : Int))], [.rows (o1) true 1 (n1) (iRow c1), .rows (o2) true 1 (n2) (iRow c2)])))
              | false => some ((.tuple #[.agg #[vI ((0 : Int)), .slice none 0 0], vI ((3 : Int))], [.rows (o1) true 1 (n1) (iRow c1), .rows (o2) true 1 (n2) (iRow c2)])))
            | false => some ((.tuple #[.agg #[vI ((0 : Int)), .slice none 0 0], vI ((3 : Int))], [.rows (o1) true 1 (n1) (iRow c1), .rows (o2) true 1 (n2) (iRow c2)])))))
      | false => some ((.tuple #[.agg #[vI ((0 : Int)), .slice none 0 0], vI ((3 : Int))], [.rows (o1) true 1 (n1) (iRow c1), .rows (o2) true 1 (n2) (iRow c2)]))))) := by kernel_rfl
end Go.Proofs.Ytjhijkdicmbbiaa


namespace Go.Proofs.Ytjhijkdicmbbiaa
open Go Vx Go.RowKit
theorem sh_row (row : Nat → List Value) : shiftR 0 row = row := by funext i; simp [shiftR]
theorem ble_self (n : Nat) : Nat.ble (0 + n) n = true := by simp [Nat.ble_eq]
theorem ioF (c : Nat → Int) : iOf (iRow c) = c := rfl
def subC (M1 M2 : Int) (c1 c2 : Nat → Int) : Nat → Int := addC M1 M2 c1 (timesC (-1) c2)
theorem frm_len {M : Int} {n : Nat} {c : Nat → Int} (h : frmB M n c = true) : M.toNat / 3 = n := by
  obtain ⟨_, e, _⟩ := frm_fine h
  omega
theorem frm_neg {M : Int} {n : Nat} {c : Nat → Int} (h : frmB M n c = true) : frmB M n (timesC (-1) c) = true := by
  have a := ng_all h
  unfold frmB at h ⊢
  simp only [Bool.and_eq_true] at h ⊢
  exact ⟨h.1, h.2.1, a⟩
theorem subNN (M1 M2 : Int) : MemSem Try.prog 25 [.agg #[vI M1, .slice none 0 0], .agg #[vI M2, .slice none 0 0]] [] (rgE 3) [] := exT_ok oke1 Try.func25 (by kernel_rfl) (sbNN M1 M2)
theorem subNL (n2 : Nat) (o2 : Bool) (M1 M2 : Int) (c2 : Nat → Int) : MemSem Try.prog 25 [.agg #[vI M1, .slice none 0 0], .agg #[vI M2, SI 0 n2]] [Ir o2 n2 c2] (rgE 3) [Ir o2 n2 c2] := by
  have h := sbNL n2 o2 M1 M2 c2
  simp only [sh_row, ioF, okIs_row, Nat.beq_refl, ble_self, Bool.and_self, gd_true] at h
  cases hf : frmB M2 n2 c2 <;> rw [hf] at h <;> exact exT_ok oke1 Try.func25 (by kernel_rfl) h
theorem subLN (n2 : Nat) (o2 : Bool) (M1 M2 : Int) (c2 : Nat → Int) : MemSem Try.prog 25 [.agg #[vI M1, SI 0 n2], .agg #[vI M2, .slice none 0 0]] [Ir o2 n2 c2] (rgE 3) [Ir o2 n2 c2] := exT_ok oke1 Try.func25 (by kernel_rfl) (sbLN n2 o2 M1 M2 c2)
theorem subT (n1 n2 : Nat) (o1 o2 : Bool) (M1 M2 : Int) (c1 c2 : Nat → Int) (_ : True) (h1 : frmB M1 n1 c1 = true) (h2 : frmB M2 n2 c2 = true) (h3 : allR ((mx M1 M2).toNat / 3) (subC M1 M2 c1 c2) = true) : MemSem Try.prog 25 [.agg #[vI M1, SI 0 n1], .agg #[vI M2, SI 1 n2]] [Ir o1 n1 c1, Ir o2 n2 c2] (rgV (mx M1 M2) (SI 2 ((mx M1 M2).toNat / 3)) 0) [Ir o1 n1 c1, Ir o2 n2 c2, Ir true ((mx M1 M2).toNat / 3) (subC M1 M2 c1 c2)] := by
  have h := sbLL n1 n2 o1 o2 M1 M2 c1 c2
  simp only [sh_row, ioF, okIs_row, Nat.beq_refl, ble_self, Bool.and_self, gd_true] at h
  unfold subC at h3
  rw [h2, h1, frm_len h2, frm_neg h2, h3] at h
  exact exT_ok oke1 Try.func25 (by kernel_rfl) h
theorem subE0 (n1 n2 : Nat) (o1 o2 : Bool) (M1 M2 : Int) (c1 c2 : Nat → Int) (_ : True) (h1 : frmB M1 n1 c1 = false) : MemSem Try.prog 25 [.agg #[vI M1, SI 0 n1], .agg #[vI M2, SI 1 n2]] [Ir o1 n1 c1, Ir o2 n2 c2] (rgE 3) [Ir o1 n1 c1, Ir o2 n2 c2] := by
  have h := sbLE n1 n2 o1 o2 M1 M2 c1 c2
  simp only [sh_row, ioF, okIs_row, Nat.beq_refl, ble_self, Bool.and_self, gd_true] at h
  rw [h1] at h
  cases hf : frmB M2 n2 c2 <;> rw [hf] at h <;> exact exT_ok oke1 Try.func25 (by kernel_rfl) h
theorem subE1 (n1 n2 : Nat) (o1 o2 : Bool) (M1 M2 : Int) (c1 c2 : Nat → Int) (_ : True) (_ : frmB M1 n1 c1 = true) (h2 : frmB M2 n2 c2 = false) : MemSem Try.prog 25 [.agg #[vI M1, SI 0 n1], .agg #[vI M2, SI 1 n2]] [Ir o1 n1 c1, Ir o2 n2 c2] (rgE 3) [Ir o1 n1 c1, Ir o2 n2 c2] := by
  have h := sbLE n1 n2 o1 o2 M1 M2 c1 c2
  simp only [sh_row, ioF, okIs_row, Nat.beq_refl, ble_self, Bool.and_self, gd_true] at h
  rw [h2] at h
  exact exT_ok oke1 Try.func25 (by kernel_rfl) h
theorem subE2 (n1 n2 : Nat) (o1 o2 : Bool) (M1 M2 : Int) (c1 c2 : Nat → Int) (_ : True) (h1 : frmB M1 n1 c1 = true) (h2 : frmB M2 n2 c2 = true) (h3 : allR ((mx M1 M2).toNat / 3) (subC M1 M2 c1 c2) = false) : MemSem Try.prog 25 [.agg #[vI M1, SI 0 n1], .agg #[vI M2, SI 1 n2]] [Ir o1 n1 c1, Ir o2 n2 c2] (rgE 4) [Ir o1 n1 c1, Ir o2 n2 c2] := by
  have h := sbLE n1 n2 o1 o2 M1 M2 c1 c2
  simp only [sh_row, ioF, okIs_row, Nat.beq_refl, ble_self, Bool.and_self, gd_true] at h
  unfold subC at h3
  rw [h2, h1, frm_len h2, frm_neg h2, h3] at h
  exact exT_ok oke1 Try.func25 (by kernel_rfl) h
def subF : List Value → Mem → Option (Ans (Value × Mem))
  | [.agg a, .agg b], mm => match a.toList, b.toList, mm with
    | [.int .i64 _, .slice none 0 0], [.int .i64 _, .slice none 0 0], [] => some (.out (rgE 3, []))
    | [.int .i64 _, .slice none 0 0], [.int .i64 _, .slice (some ⟨0, 0, some 0⟩) N 1], [.rows own true 1 N2 row] => some (.br (Nat.beq N N2 && okIs N row) (.out (rgE 3, [.rows own true 1 N row])) .fail)
    | [.int .i64 _, .slice (some ⟨0, 0, some 0⟩) N 1], [.int .i64 _, .slice none 0 0], [.rows own true 1 N2 row] => some (.br (Nat.beq N N2 && okIs N row) (.out (rgE 3, [.rows own true 1 N row])) .fail)
    | [.int .i64 M1, .slice (some ⟨0, 0, some 0⟩) N 1], [.int .i64 M2, .slice (some ⟨1, 0, some 0⟩) K 1], [.rows own true 1 N2 row, .rows own2 true 1 K2 row2] => some (.br (true && (Nat.beq N N2 && (okIs N row && (Nat.beq K K2 && okIs K row2)))) (.br (frmB M1 N (iOf row)) (.br (frmB M2 K (iOf row2)) (.br (allR ((mx M1 M2).toNat / 3) (subC M1 M2 (iOf row) (iOf row2))) (.out (rgV (mx M1 M2) (SI 2 ((mx M1 M2).toNat / 3)) 0, [.rows own true 1 N row, .rows own2 true 1 K row2, .rows true true 1 ((mx M1 M2).toNat / 3) (iRow (subC M1 M2 (iOf row) (iOf row2)))])) (.out (rgE 4, [.rows own true 1 N row, .rows own2 true 1 K row2]))) (.out (rgE 3, [.rows own true 1 N row, .rows own2 true 1 K row2]))) (.out (rgE 3, [.rows own true 1 N row, .rows own2 true 1 K row2]))) .fail)
    | _, _, _ => none
  | _, _ => none
theorem subF_ok {args : List Value} {m : Mem} {ans : Ans (Value × Mem)} {v : Value} {m' : Mem} (h : subF args m = some ans) (hr : ans.res = some (v, m')) : MemSem Try.prog 25 args m v m' := by
  unfold subF at h
  split at h
  · rename_i mm a b 
    split at h
    · rename_i M1 M2 e1 e2
      have ha : a = #[vI M1, .slice none 0 0] := by apply Array.ext'; simpa [vI] using e1
      have hb : b = #[vI M2, .slice none 0 0] := by apply Array.ext'; simpa [vI] using e2
      subst ha hb
      simp only [Option.some.injEq] at h
      subst h
      simp only [Ans.res, Option.some.injEq, Prod.mk.injEq] at hr
      obtain ⟨rfl, rfl⟩ := hr
      exact subNN M1 M2 
    · rename_i M1 M2 N own N2 row e1 e2
      have ha : a = #[vI M1, .slice none 0 0] := by apply Array.ext'; simpa [SI, vI] using e1
      have hb : b = #[vI M2, SI 0 N] := by apply Array.ext'; simpa [SI, vI] using e2
      subst ha hb
      simp only [Option.some.injEq] at h
      subst h
      rcases Ans.br_some hr with ⟨hc, g⟩ | ⟨_, g⟩ <;> clear hr
      rotate_left
      · simp [Ans.res] at g
      simp only [Bool.and_eq_true] at hc
      have e1 := Nat.eq_of_beq_eq_true hc.1
      subst e1
      simp only [Ans.res, Option.some.injEq, Prod.mk.injEq] at g
      obtain ⟨rfl, rfl⟩ := g
      have l1 : LikeL [.rows own true 1 N row] [Ir own N (iOf row)] := ⟨.rows (is_like hc.2), trivial⟩
      exact (MemSem.like (subNL N own M1 M2 (iOf row) ) l1).likes ⟨.rows fun i hi => (is_like hc.2 i hi).symm, trivial⟩
    · rename_i M1 N M2 own N2 row e1 e2
      have ha : a = #[vI M1, SI 0 N] := by apply Array.ext'; simpa [SI, vI] using e1
      have hb : b = #[vI M2, .slice none 0 0] := by apply Array.ext'; simpa [SI, vI] using e2
      subst ha hb
      simp only [Option.some.injEq] at h
      subst h
      rcases Ans.br_some hr with ⟨hc, g⟩ | ⟨_, g⟩ <;> clear hr
      rotate_left
      · simp [Ans.res] at g
      simp only [Bool.and_eq_true] at hc
      have e1 := Nat.eq_of_beq_eq_true hc.1
      subst e1
      simp only [Ans.res, Option.some.injEq, Prod.mk.injEq] at g
      obtain ⟨rfl, rfl⟩ := g
      have l1 : LikeL [.rows own true 1 N row] [Ir own N (iOf row)] := ⟨.rows (is_like hc.2), trivial⟩
      exact (MemSem.like (subLN N own M1 M2 (iOf row) ) l1).likes ⟨.rows fun i hi => (is_like hc.2 i hi).symm, trivial⟩
    · rename_i M1 N M2 K own N2 row own2 K2 row2 e1 e2
      have ha : a = #[vI M1, SI 0 N] := by apply Array.ext'; simpa [SI, vI] using e1
      have hb : b = #[vI M2, SI 1 K] := by apply Array.ext'; simpa [SI, vI] using e2
      subst ha hb
      simp only [Option.some.injEq] at h
      subst h
      rcases Ans.br_some hr with ⟨hc, g⟩ | ⟨_, g⟩ <;> clear hr
      rotate_left
      · simp [Ans.res] at g
      simp only [Bool.and_eq_true] at hc
      obtain ⟨cp, c1, c2, c3, c4⟩ := hc
      have e1 := Nat.eq_of_beq_eq_true c1
      have e2 := Nat.eq_of_beq_eq_true c3
      subst e1 e2
      have l1 : LikeL [.rows own true 1 N row, .rows own2 true 1 K row2] [Ir own N (iOf row), Ir own2 K (iOf row2)] := ⟨.rows (is_like c2), .rows (is_like c4), trivial⟩
      have b1 : Like (Ir own N (iOf row)) (.rows own true 1 N row) := .rows fun i hi => (is_like c2 i hi).symm
      have b2 : Like (Ir own2 K (iOf row2)) (.rows own2 true 1 K row2) := .rows fun i hi => (is_like c4 i hi).symm
      rcases Ans.br_some g with ⟨h0, g0⟩ | ⟨h0, g0⟩ <;> clear g
      rotate_left
      · simp only [Ans.res, Option.some.injEq, Prod.mk.injEq] at g0
        obtain ⟨rfl, rfl⟩ := g0
        exact (MemSem.like (subE0 N K own own2 M1 M2 (iOf row) (iOf row2)  cp h0) l1).likes ⟨b1, b2, trivial⟩
      rcases Ans.br_some g0 with ⟨h1, g1⟩ | ⟨h1, g1⟩ <;> clear g0
      rotate_left
      · simp only [Ans.res, Option.some.injEq, Prod.mk.injEq] at g1
        obtain ⟨rfl, rfl⟩ := g1
        exact (MemSem.like (subE1 N K own own2 M1 M2 (iOf row) (iOf row2)  cp h0 h1) l1).likes ⟨b1, b2, trivial⟩
      rcases Ans.br_some g1 with ⟨h2, g2⟩ | ⟨h2, g2⟩ <;> clear g1
      rotate_left
      · simp only [Ans.res, Option.some.injEq, Prod.mk.injEq] at g2
        obtain ⟨rfl, rfl⟩ := g2
        exact (MemSem.like (subE2 N K own own2 M1 M2 (iOf row) (iOf row2)  cp h0 h1 h2) l1).likes ⟨b1, b2, trivial⟩
      simp only [Ans.res, Option.some.injEq, Prod.mk.injEq] at g2
      obtain ⟨rfl, rfl⟩ := g2
      exact (MemSem.like (subT N K own own2 M1 M2 (iOf row) (iOf row2)  cp h0 h1 h2) l1).likes ⟨b1, b2, .refl _, trivial⟩
    · cases h
  · cases h
def Cr25 (P : Program) : Cx := (Ce1 P).addM 25 subF
theorem okr25 : CxOk (Cr25 Try.prog) := Cx.addM_ok oke1 fun _ _ _ _ _ h hr => subF_ok h hr
def Ce2 (P : Program) : Cx := (Cr25 P).lend 25
theorem okCe2 : CxOk (Ce2 Try.prog) := Cx.lend_ok okr25 _
end Go.Proofs.Ytjhijkdicmbbiaa


namespace Go.Proofs.Ytjhijkdicmbbiaa
open Go Vx Go.RowKit
def aw15P : List Value → Option (Bool × Value)
  | [] => some (true, .bool true)
  | _ => none
def Cr26 (P : Program) : Cx := (Ce2 P).addR 26 aw15P
theorem okr26 : CxOk (Cr26 Try.prog) := Cx.addP_ok okCe2 fun args v hp h hv => by
  unfold aw15P at h
  split at h
  · simp only [Option.some.injEq, Prod.mk.injEq, true_and] at h
    subst h
    exact (exT_ok okrA Try.func26 (by kernel_rfl) aw15).plain hp hv
  · cases h
def Cl0 (P : Program) : Cx := Cr26 P
theorem okl0 : CxOk (Cl0 Try.prog) := okr26
end Go.Proofs.Ytjhijkdicmbbiaa


namespace Go.Proofs.Ytjhijkdicmbbiaa.Vx
open Go Go.RowKit

/-- The cells of a list's rows, in a world. -/
def RowsAt (W : World) (a : Addr) (e n : Nat) (row : Nat → List Value) : Prop := a.spot = none ∧ ∃ cs T fz, W.heap[a.block]? = some (.cells cs T fz) ∧ ∀ i, i < n → (row i).length = e ∧ allL plain0 (row i) = true ∧ ∀ (k : Nat) v, (row i)[k]? = some v → cs[a.off + i * e + k]? = some v
theorem RowsAt.congr {W : World} {a : Addr} {e n : Nat} {row row2 : Nat → List Value} (h : RowsAt W a e n row) (hr : ∀ i, i < n → row i = row2 i) : RowsAt W a e n row2 := by
  obtain ⟨h1, cs, T, fz, h2, h3⟩ := h
  exact ⟨h1, cs, T, fz, h2, fun i hi => by rw [← hr i hi]; exact h3 i hi⟩
def kRow (k : IntKind) (xs : List (List Int)) : Nat → List Value := fun i => intsK k ((xs[i]?).getD [])
theorem plain_intsK (k : IntKind) (l : List Int) : allL plain0 (intsK k l) = true := allL_iff.2 fun x hx => by
  obtain ⟨y, _, rfl⟩ := List.mem_map.1 hx
  rfl

section
variable {H : Type} {enc : TypeId × Value → H} {P : Program} {W : World} {base : Nat} {spare : Nat → Bool} {held : Bool}
theorem open_rows {t e : TypeId} {b0 z : Nat} {kd : IntKind} {v : Value} {d : DataW H} {ps : List MemPlace} (ht : P.underlying t = some (.slice e)) (hl : leafs P 9 e = some (List.replicate z (some kd))) (hc : P.cellsOf e = z) (hv : Value.okWide P W .any b0 t v)
    (h : DataW.Trod enc P W base spare held t v d ps) :
    v = .slice none 0 0 ∨ ∃ (a : Addr) (cap : Nat) (xs : List (List Int)) (es rs : List (DataW H)), v = .slice (some a) xs.length cap ∧ xs.length ≤ cap ∧ RowsAt W a z xs.length (kRow kd xs) ∧ d = .slice es rs ∧ es.length = xs.length ∧ ∀ x ∈ xs, x.length = z ∧ ∀ y ∈ x, (Lit.int kd y).wf = true := by
  obtain ⟨fuel, hf⟩ := h
  rcases DataW.trod_slice ht hf with ⟨h0, _⟩ | ⟨a, len, cap, elems, rest, n, _, hcs, hx, hb, hlc, hm, hlen, hel, _, _⟩
  · left
    cases v <;> simp [Value.cells] at h0
    · obtain ⟨rfl, rfl, rfl⟩ := h0; rfl
    · unfold Value.okWide at hv
      rw [ht] at hv
      simp only [Cell.okWide, ht, Cell.ok] at hv
  · right
    have hv' : v = .slice (some a) len cap := by
      cases v <;> simp [Value.cells] at hcs
      · obtain ⟨rfl, rfl, rfl⟩ := hcs; rfl
      · unfold Value.okWide at hv
        rw [ht] at hv
        simp only [Cell.okWide, ht, Cell.ok] at hv
    subst hv'
    have hhas : a.spot = none ∧ ∃ cs T fz, W.heap[a.block]? = some (.cells cs T fz) := by
      unfold Value.okWide at hv
      rw [ht] at hv
      simp only [Cell.okWide, ht, Cell.ok] at hv
      obtain ⟨_, _, _, hs, row, cells, hsh, _⟩ := hv
      refine ⟨hs, ?_⟩
      unfold World.shape? at hsh
      split at hsh
      · rename_i c el fz hh; exact ⟨c, el, fz, hh⟩
      · cases hsh
    obtain ⟨hs, cs, T, fz, hh⟩ := hhas
    have each : ∀ i, i < len → ∃ o : List Int, o.length = z ∧ (∀ y ∈ o, (Lit.int kd y).wf = true) ∧ ∀ (k : Nat) v, (intsK kd o)[k]? = some v → cs[a.off + i * z + k]? = some v := fun i hi => by
      have h1 := hel i hi
      rw [List.getElem?_eq_getElem (by omega), Option.bind_eq_some_iff] at h1
      obtain ⟨cc, h2, h3⟩ := h1
      obtain ⟨_, h4, h5⟩ := World.cells?_some h2
      rw [hc] at h4 h5
      obtain ⟨l, k1, k2, k3⟩ := leaves_ints z _ (leafs_read 9 e _ hl n _ _ h3)
      refine ⟨l, k1, k3, fun k v hk => ?_⟩
      rw [← k2] at hk
      have hk2 : k < z := by
        have := (List.getElem?_eq_some_iff.1 hk).1
        omega
      have h6 := h5 k hk2
      rw [hk] at h6
      unfold World.cell? at h6
      have hblk : ((a.add (i * z)).add k).block = a.block := by unfold Addr.add; split <;> split <;> rfl
      have hoff : ((a.add (i * z)).add k).off = a.off + i * z + k := by
        unfold Addr.add
        split <;> split <;> (try simp only) <;> omega
      have hspt : ((a.add (i * z)).add k).spot = none := by
        unfold Addr.add
        split <;> split <;> first | exact hs | rfl
      rw [hblk, hh] at h6
      simp only [hspt, hoff] at h6
      simpa using h6
    have build : ∀ m, m ≤ len → ∃ xs : List (List Int), xs.length = m ∧ (∀ x ∈ xs, x.length = z ∧ ∀ y ∈ x, (Lit.int kd y).wf = true) ∧ ∀ (i : Nat) o, xs[i]? = some o → ∀ (k : Nat) v, (intsK kd o)[k]? = some v → cs[a.off + i * z + k]? = some v := by
      intro m
      induction m with
      | zero => intro _; exact ⟨[], rfl, by simp, by simp⟩
      | succ m ih =>
        intro hm2
        obtain ⟨xs, hx1, hxw, hx2⟩ := ih (by omega)
        obtain ⟨o, ho1, ho2, ho⟩ := each m (by omega)
        refine ⟨xs ++ [o], by simp [hx1], fun x hx => ?_, fun i p hp => ?_⟩
        · rcases List.mem_append.1 hx with hx | hx
          · exact hxw x hx
          · simp only [List.mem_singleton] at hx
            subst hx
            exact ⟨ho1, ho2⟩
        by_cases hi : i < xs.length
        · rw [List.getElem?_append_left hi] at hp
          exact hx2 i p hp
        · rw [List.getElem?_append_right (by omega)] at hp
          have hi2 : i - xs.length = 0 := by
            have := (List.getElem?_eq_some_iff.1 hp).1
            simp at this; omega
          rw [hi2] at hp
          simp only [List.getElem?_cons_zero, Option.some.injEq] at hp
          subst hp
          have : i = m := by omega
          subst this
          exact ho
    obtain ⟨xs, hx1, hxw, hx2⟩ := build len (Nat.le_refl _)
    simp only [Prod.mk.injEq] at hx
    refine ⟨a, cap, xs, elems.map (·.1), rest.map (·.1), by rw [hx1], by omega, ⟨hs, cs, T, fz, hh, fun i hi => ?_⟩, hx.1, by simp [hlen, hx1], hxw⟩
    unfold kRow
    rw [List.getElem?_eq_getElem hi]
    refine ⟨?_, plain_intsK _ _, fun k v hk => hx2 i _ (List.getElem?_eq_getElem hi) k v hk⟩
    simp only [Option.getD_some, intsK, List.length_map]
    exact (hxw _ (List.getElem_mem hi)).1
end

structure Lst where
  a : Addr
  e : Nat
  n : Nat
  row : Nat → List Value
def Lst.place (x : Lst) : Place := ⟨x.a.block, x.a.off, x.e, x.n, 0, false⟩
def Lst.blk (x : Lst) : Blk := .rows false true x.e x.n x.row
def lstRen (l : List Lst) : Ren := fun i => (l[i]?).map fun x => some x.place
theorem Lst.rel {W : World} {x : Lst} (h : RowsAt W x.a x.e x.n x.row) (r : Ren) : BlkRel W r x.place x.blk := by
  obtain ⟨_, cs, T, fz, hh, hx⟩ := h
  exact ⟨rfl, rfl, rfl, fun _ i hi => allL_nad0 (hx i hi).2.1, cs, T, fz, fun _ => rfl, hh, (fun h => by cases h), fun i hi => ⟨(hx i hi).1, fun k v hv => ⟨v, (hx i hi).2.2 k v hv, (R0_plain (allL_iff.1 (hx i hi).2.1 v (List.mem_of_getElem? hv))).2 rfl⟩⟩⟩
theorem lst_rel {W : World} {l : List Lst} (h : ∀ x ∈ l, RowsAt W x.a x.e x.n x.row) : MemRel W (keepAll W) (lstRen l) (l.map Lst.blk) W := by
  have key : ∀ {b : Nat} {p : Place}, lstRen l b = some (some p) → ∃ x, l[b]? = some x ∧ p = x.place ∧ BlkRel W (lstRen l) p x.blk := fun {b p} hp => by
    unfold lstRen at hp
    cases hx : l[b]? with
    | none => rw [hx] at hp; cases hp
    | some x =>
      rw [hx] at hp
      simp only [Option.map_some, Option.some.injEq] at hp
      exact ⟨x, rfl, hp.symm, hp ▸ Lst.rel (h x (List.mem_of_getElem? hx)) _⟩
  refine ⟨rfl, rfl, rfl, Nat.le_refl _, Nat.le_refl _, fun j hj => hj, fun j _ => rfl, fun b hb' => ?_, fun b hb' => ?_, fun b p hp => ?_, fun b p hp ho => ?_, fun b p hp _ _ => ?_, fun b p hp _ hz => ?_, fun b c p q hp _ _ hz => ?_, fun b c p q hp _ ho => ?_⟩
  · unfold lstRen
    cases hx : l[b]? with
    | none => rfl
    | some x => rw [List.getElem?_map, hx] at hb'; simp [Lst.blk] at hb'
  · unfold lstRen at hb'
    cases hx : l[b]? with
    | none => rw [hx] at hb'; cases hb'
    | some x => rw [hx] at hb'; cases hb'
  · obtain ⟨x, h1, rfl, h2⟩ := key hp
    exact ⟨_, by rw [List.getElem?_map, h1]; rfl, h2⟩
  · obtain ⟨x, _, rfl, _⟩ := key hp; cases ho
  · obtain ⟨x, _, rfl, h2⟩ := key hp; exact h2.lt
  · obtain ⟨x, _, rfl, _⟩ := key hp; exact absurd rfl hz
  · obtain ⟨x, _, rfl, _⟩ := key hp; exact absurd rfl hz
  · obtain ⟨x, _, rfl, _⟩ := key hp; cases ho
theorem lst_arg {l : List Lst} {k : Nat} {x : Lst} {cap : Nat} (hx : l[k]? = some x) (hs : x.a.spot = none) (hc : x.n ≤ cap) : R (lstRen l) (.slice (some ⟨k, 0, some 0⟩) x.n x.e) (.slice (some x.a) x.n cap) := by
  refine R_sl_mk hc (Or.inr ⟨x.place, by unfold lstRen; rw [hx]; rfl, ?_, hc, fun i hi => ?_, fun _ => rfl, fun _ => rfl, fun h => by cases h⟩)
  · obtain ⟨a, e, n, row⟩ := x
    obtain ⟨bk, off, spot⟩ := a
    simp only at hs
    subst hs
    simp [Place.addr, Lst.place]
  · simp only [Option.some.injEq] at hi; subst hi; simp [Lst.place]
/-- A law of lists, called. -/
theorem MemSem.callsG {P : Program} {f : FuncId} {W : World} {l : List Lst} {args args' : List Value} {m' : Mem} (h : MemSem P f args (l.map Lst.blk) (.bool true) m') (hl : ∀ x ∈ l, RowsAt W x.a x.e x.n x.row) (hm : RL (R (lstRen l)) args args') :
    Calls P f args'.toArray W fun e W' => e = .returned (.bool true) ∧ Below W.heap.size W W' := by
  refine (h.2 W _ _ args' W hm (lst_rel hl)).mono ?_
  rintro e w' ⟨v', r', rfl, h1, h2, h3⟩
  rw [(R_plain (v := .bool true) rfl).1 h1]
  exact ⟨rfl, ⟨h2.os, h2.tape, h2.output, h2.size, fun k hk => h2.kept k hk⟩⟩
end Go.Proofs.Ytjhijkdicmbbiaa.Vx


namespace Go.Proofs.Ytjhijkdicmbbiaa.Vx
open Go Go.RowKit Go.ChangeShapes
section
variable {H : Type} {enc : TypeId × Value → H} {P : Program} {W : World} {base : Nat} {spare : Nat → Bool} {held : Bool}
theorem open_ring {t te : TypeId} {f0 f1 : Field} {b0 : Nat} {v : Value} {d : DataW H} {ps : List MemPlace} (hs : P.underlying t = some (.struct #[f0, f1])) (hC : P.cellsOf t = 2) (ho0 : f0.offset = 0) (ho1 : f1.offset = 1) (hc0 : P.cellsOf f0.type = 1) (hc1 : P.cellsOf f1.type = 1)
    (hct : P.cellTypes P.depth t = some [f0.type, f1.type]) (h0 : P.underlying f0.type = some (.int .i64)) (ht : P.underlying f1.type = some (.slice te)) (hl : leafs P 9 te = some (List.replicate 1 (some .i64))) (hc : P.cellsOf te = 1)
    (hv : Value.okWide P W .any b0 t v) (h : DataW.Trod enc P W base spare held t v d ps) :
    ∃ M : Int, (Lit.int .i64 M).wf = true ∧ (v = .agg #[.int .i64 M, .slice none 0 0] ∨ ∃ (a : Addr) (cap : Nat) (xs : List (List Int)) (x : DataW H) (es rs : List (DataW H)), v = .agg #[.int .i64 M, .slice (some a) xs.length cap] ∧ xs.length ≤ cap ∧ RowsAt W a 1 xs.length (kRow .i64 xs) ∧ d = .agg [x, .slice es rs] ∧ es.length = xs.length ∧ ∀ x ∈ xs, x.length = 1 ∧ ∀ y ∈ x, (Lit.int .i64 y).wf = true) := by
  have hv0 := hv
  unfold Value.okWide at hv
  rw [hs] at hv
  obtain ⟨cs, rfl, hsz, ts, h1, _, h2⟩ := hv
  rw [hct] at h1
  cases h1
  rw [hC] at hsz
  obtain ⟨c0, c1, rfl⟩ : ∃ c0 c1, cs = #[c0, c1] := by
    obtain ⟨l⟩ := cs
    match l, hsz with
    | [c0, c1], _ => exact ⟨c0, c1, rfl⟩
  obtain ⟨fuel, hf⟩ := h
  obtain ⟨y0, y1, n, hx, _, k0, k1⟩ := trod_struct2 hs hf
  rw [ho0, hc0] at k0
  rw [ho1, hc1] at k1
  simp only [Prod.mk.injEq] at hx
  obtain ⟨u0, w0, o0⟩ := h2 0 c0 rfl
  obtain ⟨u1, w1, o1⟩ := h2 1 c1 rfl
  simp only [List.length_cons, List.length_nil, Nat.zero_mod, List.getElem?_cons_zero, Option.some.injEq] at w0
  have w1' : f1.type = u1 := by simpa using w1
  subst w0 w1'
  have q1 : Value.okWide P W .any b0 f1.type c1 := by
    unfold Value.okWide
    rw [ht]
    refine (?_ : Cell.okWide P W .any b0 f1.type c1)
    unfold Cell.okWide at o1 ⊢
    rw [ht] at o1 ⊢
    exact o1
  have e1 : c1.cells = #[c1] := by
    cases c1 <;> first | rfl | (exfalso; simp only [Cell.okWide, ht, Cell.ok] at o1)
  obtain ⟨M, rfl, hM⟩ : ∃ M : Int, c0 = .int .i64 M ∧ (Lit.int .i64 M).wf = true := by
    have q0 : Value.okWide P W .any b0 f0.type c0 := by
      unfold Value.okWide
      rw [h0]
      exact o0
    have e0 : c0.cells = #[c0] := by
      cases c0 <;> first | rfl | (exfalso; simp only [Cell.okWide, h0, Cell.ok] at o0)
    have t0 : DataW.Trod enc P W base spare held f0.type c0 y0.1 y0.2 := ⟨n, by rw [e0]; simpa [Value.cells] using k0⟩
    obtain ⟨x, rfl, _, _, u⟩ := open_int h0 q0 t0
    exact ⟨x, rfl, u⟩
  refine ⟨M, hM, ?_⟩
  have t1 : DataW.Trod enc P W base spare held f1.type c1 y1.1 y1.2 := ⟨n, by rw [e1]; simpa [Value.cells] using k1⟩
  rcases open_rows (z := 1) (kd := .i64) ht hl hc q1 t1 with rfl | ⟨a, cap, xs, es, rs, rfl, a1, a2, a3, a4, a5⟩
  · exact Or.inl rfl
  · refine Or.inr ⟨a, cap, xs, y0.1, es, rs, rfl, a1, a2, ?_, a4, a5⟩
    rw [hx.1, a3]
end
/-- The whole numbers of a list of rows of one. -/
def iCol (xs : List (List Int)) (i : Nat) : Int := ((xs[i]?).getD []).headD 0
theorem rows_col {W : World} {a : Addr} {xs : List (List Int)} (h : RowsAt W a 1 xs.length (kRow .i64 xs)) (hw : ∀ x ∈ xs, x.length = 1) : RowsAt W a 1 xs.length fun i => [.int .i64 (iCol xs i)] := by
  refine h.congr fun i hi => ?_
  have h1 := hw xs[i] (List.getElem_mem hi)
  unfold kRow iCol
  rw [List.getElem?_eq_getElem hi]
  simp only [Option.getD_some]
  generalize xs[i] = x at h1
  match x, h1 with
  | [a], _ => rfl
/-- A list of whole numbers, as one of those that are looked at. -/
def iLst (a : Addr) (xs : List (List Int)) : Lst := ⟨a, 1, xs.length, fun i => [.int .i64 (iCol xs i)]⟩
theorem R_ring {r : Ren} {M : Int} {v v' : Value} (h : R0 r v v') : R r (.agg #[.int .i64 M, v]) (.agg #[.int .i64 M, v']) := ⟨#[.int .i64 M, v'], rfl, (R0_plain (v := .int .i64 M) rfl).2 rfl, h, trivial⟩
theorem iLst_arg {l : List Lst} {k : Nat} {a : Addr} {xs : List (List Int)} {cap : Nat} (hx : l[k]? = some (iLst a xs)) (hs : a.spot = none) (hc : xs.length ≤ cap) : R (lstRen l) (.slice (some ⟨k, 0, some 0⟩) xs.length 1) (.slice (some a) xs.length cap) := lst_arg (x := iLst a xs) hx hs hc
theorem lst_all1 {W : World} {x : Lst} (h : RowsAt W x.a x.e x.n x.row) : ∀ y ∈ [x], RowsAt W y.a y.e y.n y.row := fun y hy => by
  simp only [List.mem_singleton] at hy
  subst hy
  exact h
theorem lst_all2 {W : World} {x z : Lst} (h : RowsAt W x.a x.e x.n x.row) (k : RowsAt W z.a z.e z.n z.row) : ∀ y ∈ [x, z], RowsAt W y.a y.e y.n y.row := fun y hy => by
  simp only [List.mem_cons, List.not_mem_nil, or_false] at hy
  rcases hy with rfl | rfl
  · exact h
  · exact k
end Go.Proofs.Ytjhijkdicmbbiaa.Vx
