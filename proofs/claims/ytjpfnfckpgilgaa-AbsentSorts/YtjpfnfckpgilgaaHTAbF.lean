/-
  facetlaw14.awake, told; facetlaw14.AbsentIs, run. Nothing here is trusted.
-/
import Derived.Test.YtjpfnfckpgilgaaKal
namespace Go.Proofs.Ytjpfnfckpgilgaa
open Go Vx Go.RowKit

def Car (P : Program) : Cx := (Caq P).addI 38
theorem okar : CxOk (Car Try.prog) := Cx.addI_ok okaq (by kernel_rfl)
theorem awaE : exFun ((Car Try.prog).at 19) 200 Try.f19 (pack [] []) = some (.bool true) := by kernel_rfl
def Fawa : List Int → Option Value
  | [] => some (.bool true)
  | _ => none
def Cas (P : Program) : Cx := (Car P).add 19 [] Fawa
theorem okas : CxOk (Cas Try.prog) := Cx.add_ok okar (n := 200) Try.func19 (by kernel_rfl) fun l v hl h => by
  match l, hl, h with
  | [], _, hh => rw [awaE]; exact hh
theorem aiE1 (own : Bool) (n : Nat) (xs : List O3) (h : V3) : exT ((Cas Try.prog).at 4) 80 Try.f4 [.slice (some ⟨0, 0, some 0⟩) n 12, h.v] [.rows own true 12 n (opRow xs)] [.fix 0] =
    gd (lk n) (gd (ghT alwB n (opRow xs) h) (gd (lk n) (gd (ghT alwB n (opRow xs) h) (match isb (opsOf n (opRow xs)) h != dib (opsOf n (opRow xs)) h with
    | true => some (.bool false, [.rows own true 12 n (opRow xs)])
    | false => match acI (opsOf n (opRow xs)) h != acI (opsOf n (opRow xs)) h with
      | true => some (.bool false, [.rows own true 12 n (opRow xs)])
      | false => gd (lk n) (gd (ghT alwB n (opRow xs) h) (gd (lk n) (gd (ghT alwB n (opRow xs) h) (match !((whO (opsOf n (opRow xs)) h).eqB (dwO (opsOf n (opRow xs)) h)) with
        | true => some (.bool false, [.rows own true 12 n (opRow xs)])
        | false => match whE (opsOf n (opRow xs)) h != dwE (opsOf n (opRow xs)) h with
          | true => some (.bool false, [.rows own true 12 n (opRow xs)])
          | false => gd (lk n) (gd (ghT alwB n (opRow xs) h) (gd (lk n) (gd (ghT alwB n (opRow xs) h) (match ceN (opsOf n (opRow xs)) h == deN (opsOf n (opRow xs)) h with
            | true => match ceC (opsOf n (opRow xs)) h == deC (opsOf n (opRow xs)) h with
              | true => some (.bool (acI (opsOf n (opRow xs)) h == acI (opsOf n (opRow xs)) h), [.rows own true 12 n (opRow xs)])
              | false => some (.bool false, [.rows own true 12 n (opRow xs)])
            | false => some (.bool false, [.rows own true 12 n (opRow xs)]))))))))))))) := by kernel_rfl
theorem aiE0 (h : V3) : exT ((Cas Try.prog).at 4) 80 Try.f4 [.slice none 0 0, h.v] [] [] = (match leastN h.ixk 5 != leastN h.ixk 5 with
    | true => some (.bool false, [])
    | false => match leastN h.ixk 5 != leastN h.ixk 5 with
      | true => some (.bool false, [])
      | false => some (.bool (leastN h.ixk 5 == leastN h.ixk 5), [])) := by kernel_rfl
/-! What the program finds is what the document finds -/
theorem grp_phase {X : List O3} {h : V3} (e : acI X h = 0) {i : Nat} (hi : i < X.length) : phV (atO X (i : Int)) h = phI (atO X (i : Int)) h := by
  obtain ⟨e1, e2⟩ := leastN_zero.1 e
  have hm : atO X (i : Int) ∈ X := by
    unfold atO
    rw [Int.toNat_natCast, List.getElem?_eq_getElem hi]
    exact List.getElem_mem hi
  have hk := (chk_grp e2).2.1.ck _ hm
  unfold phV phE
  rw [e1, hk]; rfl
theorem rst_wyt {X : List O3} {h : V3} (e : acI X h = 0) : fst? (rst X h) X.length 0 = fst? (wyt X h) X.length 0 :=
  fst?_congr fun j _ hj => by unfold rst wyt; rw [grp_phase e (by omega)]
theorem isb_dib (X : List O3) (h : V3) : isb X h = dib X h := by
  unfold isb dib
  cases hc : acI X h != 0 with
  | true => rfl
  | false =>
    have e : acI X h = 0 := by simpa using hc
    simp only
    unfold rsb wyI
    rw [rst_wyt e]
    cases fst? (wyt X h) X.length 0 with
    | none => rfl
    | some k => exact (decide_eq_true (Int.natCast_nonneg k)).symm
theorem whO_dwO (X : List O3) (h : V3) : whO X h = dwO X h ∧ whE X h = dwE X h := by
  unfold whO dwO whE dwE
  cases hc : acI X h != 0 with
  | true => exact ⟨rfl, rfl⟩
  | false =>
    have e : acI X h = 0 := by simpa using hc
    simp only
    unfold rsb rsO wyI
    rw [rst_wyt e]
    cases fst? (wyt X h) X.length 0 with
    | none => exact ⟨rfl, rfl⟩
    | some k =>
      simp only
      rw [decide_eq_false (show ¬ ((k : Int) < 0) by omega)]
      exact ⟨rfl, rfl⟩
theorem ce_de (X : List O3) (h : V3) : ceN X h = deN X h ∧ ceC X h = deC X h := by
  unfold ceN deN ceC deC
  cases hc : acI X h != 0 with
  | true => exact ⟨rfl, rfl⟩
  | false =>
    have e : acI X h = 0 := by simpa using hc
    simp only
    rw [show det X h = cet X h from rfl]
    cases hf : fst? (cet X h) X.length 0 with
    | none => exact ⟨rfl, rfl⟩
    | some k =>
      have hk := fst?_some hf
      exact ⟨grp_phase e (by omega), rfl⟩
theorem ai_sem (own : Bool) (X : List O3) (h : V3) : MemSem Try.prog 4 [.slice (some ⟨0, 0, some 0⟩) X.length 12, h.v] [.rows own true 12 X.length (opRow X)] (.bool true) [.rows own true 12 X.length (opRow X)] := by
  have r := aiE1 own X.length X h
  simp only [lk_true, gd_true, ghT_ok (show alwB X h = true from rfl), opsOf_opRow, isb_dib, (whO_dwO X h).1, (whO_dwO X h).2, (ce_de X h).1, (ce_de X h).2, bne_self_eq_false, beq_self_eq_true, O3.eqB_refl, Bool.not_true] at r
  exact exT_ok okas Try.func4 (by kernel_rfl) r
theorem absentIs_nil (W : World) (h : V3) : Calls Try.prog 4 #[.slice none 0 0, h.v] W fun e W' => e = .returned (.bool true) ∧ Below W.heap.size W W' := by
  have r := aiE0 h
  simp only [bne_self_eq_false, beq_self_eq_true] at r
  exact ((MemSem.plain (exT_ok okas Try.func4 (by kernel_rfl) r) (fun x hx => by
    simp only [List.mem_cons, List.not_mem_nil, or_false] at hx
    rcases hx with rfl | rfl <;> rfl) rfl).2 W).mono fun _ _ hq => ⟨hq.1, hq.2.1⟩
theorem absentIs_walk {W : World} {a : Addr} {xs : List O3} {cap : Nat} (ha : OpsAt W a xs) (hc : xs.length ≤ cap) (h : V3) : Calls Try.prog 4 #[.slice (some a) xs.length cap, h.v] W fun e W' => e = .returned (.bool true) ∧ Below W.heap.size W W' :=
  (ai_sem false xs h).calls ha hc (more := [h.v]) (more' := [h.v]) ⟨(R_plain (v := h.v) rfl).2 rfl, trivial⟩
end Go.Proofs.Ytjpfnfckpgilgaa
