/-
  The document's least distance: what three loops come to. No program in sight. Nothing here is trusted.
-/
import Derived.Test.YtofblakbfmjgkaaHFarT
import Derived.Test.YtofblakbfmjgkaaKai
namespace Go.Proofs.Ytofblakbfmjgkaa.Vx
open Go
def docZ (f : Int → Int → Int) (M X : Int) : Nat → Int → Int → Int
  | 0, _, b => b
  | k + 1, z, b => docZ f M X k (z + 1) (bif z % M != X then b else f b z)
def imgE (X M : Int) : List Int := if X = 0 then [-M, 0, M] else [X - M, X]
theorem docZ_skip (f : Int → Int → Int) (M X : Int) (k : Nat) (b : Int) : ∀ (j : Nat) (z : Int), (∀ t, z ≤ t → t < z + (j : Int) → t % M ≠ X) → docZ f M X (j + k) z b = docZ f M X k (z + (j : Int)) b
  | 0, z, _ => by simp
  | j + 1, z, h => by
    rw [show j + 1 + k = (j + k) + 1 by omega]
    simp only [docZ]
    have := h z (by omega) (by omega)
    rw [show (z % M != X) = true by simpa using this]
    simp only [cond_true]
    rw [docZ_skip f M X k b j (z + 1) fun t h1 h2 => h t (by omega) (by omega)]
    congr 1
    omega
theorem docZ_hit {f : Int → Int → Int} {M X : Int} {k : Nat} {z b : Int} (h : z % M = X) : docZ f M X (k + 1) z b = docZ f M X k (z + 1) (f b z) := by
  simp only [docZ]
  rw [show (z % M != X) = false by simpa using h]
  rfl
theorem md_rng {M t : Int} (h1 : -M ≤ t) (h2 : t ≤ M) : (t = -M ∧ t % M = 0) ∨ (-M < t ∧ t < 0 ∧ t % M = t + M) ∨ (0 ≤ t ∧ t < M ∧ t % M = t) ∨ (t = M ∧ t % M = 0) := by
  by_cases a : t = -M
  · left; refine ⟨a, ?_⟩; rw [a]; simp
  · by_cases b : t < 0
    · right; left
      refine ⟨by omega, b, ?_⟩
      have : (t + M) % M = t % M := Int.add_emod_right ..
      rw [← this]
      exact Int.emod_eq_of_lt (by omega) (by omega)
    · by_cases c : t < M
      · right; right; left
        exact ⟨by omega, c, Int.emod_eq_of_lt (by omega) c⟩
      · right; right; right
        have : t = M := by omega
        refine ⟨this, ?_⟩
        rw [this]; simp
theorem docZ_img (f : Int → Int → Int) {M X : Int} (hM : 0 < M) (h0 : 0 ≤ X) (h1 : X < M) (b : Int) : docZ f M X (2 * M + 1).toNat (-M) b = (imgE X M).foldl f b := by
  have ms : M % M = 0 := by simp
  have mn : (-M) % M = 0 := by simp
  unfold imgE
  by_cases hX : X = 0
  · subst hX
    rw [if_pos rfl]
    rw [show (2 * M + 1).toNat = ((M - 1).toNat + ((M - 1).toNat + 1 + 1)) + 1 by omega, docZ_hit mn, docZ_skip _ _ _ _ _ (M - 1).toNat (-M + 1) (fun t a c => by rcases md_rng (M := M) (t := t) (by omega) (by omega) with h | h | h | h <;> omega),
      show -M + 1 + ((M - 1).toNat : Int) = 0 by omega, show (M - 1).toNat + 1 + 1 = ((M - 1).toNat + 1) + 1 from rfl, docZ_hit (by simp), docZ_skip _ _ _ _ _ (M - 1).toNat (0 + 1) (fun t a c => by rcases md_rng (M := M) (t := t) (by omega) (by omega) with h | h | h | h <;> omega),
      show 0 + 1 + ((M - 1).toNat : Int) = M by omega, docZ_hit ms]
    rfl
  · rw [if_neg hX]
    rw [show (2 * M + 1).toNat = X.toNat + (((M - 1).toNat + ((M - X).toNat + 0 + 1)) + 1) by omega, docZ_skip _ _ _ _ _ X.toNat (-M) (fun t a c => by rcases md_rng (M := M) (t := t) (by omega) (by omega) with h | h | h | h <;> omega),
      show -M + (X.toNat : Int) = X - M by omega, docZ_hit (by rcases md_rng (M := M) (t := X - M) (by omega) (by omega) with h | h | h | h <;> omega), docZ_skip _ _ _ _ _ (M - 1).toNat (X - M + 1) (fun t a c => by rcases md_rng (M := M) (t := t) (by omega) (by omega) with h | h | h | h <;> omega),
      show X - M + 1 + ((M - 1).toNat : Int) = X by omega, docZ_hit (Int.emod_eq_of_lt h0 h1)]
    have e := docZ_skip f M X 0 (f (f b (X - M)) X) (M - X).toNat (X + 1) (fun t a c => by rcases md_rng (M := M) (t := t) (by omega) (by omega) with h | h | h | h <;> omega)
    exact e
def updS (b s : Int) : Int := bif decide (b < 0) then s else bif decide (s < b) then s else b
def docIn (s : Int → Int → Int → Int) (x y : Int) : Int → Int → Int := fun b z => updS b (s x y z)
def docMid (s : Int → Int → Int → Int) (M : Int) (v : V3) (x : Int) : Int → Int → Int := fun b y => docZ (docIn s x y) M v.z (2 * M + 1).toNat (-M) b
def docOut (s : Int → Int → Int → Int) (M : Int) (v : V3) : Int → Int → Int := fun b x => docZ (docMid s M v x) M v.y (2 * M + 1).toNat (-M) b
def docFar (s : Int → Int → Int → Int) (M : Int) (v : V3) : Int := docZ (docOut s M v) M v.x (2 * M + 1).toNat (-M) (-1)
/-- All vectors that are looked at. -/
def allV (M : Int) (v : V3) : List V3 := (imgE v.x M).flatMap fun x => (imgE v.y M).flatMap fun y => (imgE v.z M).map fun z => ⟨x, y, z⟩
theorem fold_map {α β γ : Type} (f : β → γ → β) (g : α → γ) : ∀ (l : List α) (b : β), l.foldl (fun b a => f b (g a)) b = (l.map g).foldl f b
  | [], _ => rfl
  | a :: l, b => by simp only [List.foldl, List.map]; exact fold_map f g l _
theorem fold_flat {α β γ : Type} (f : β → γ → β) (g : α → List γ) : ∀ (l : List α) (b : β), l.foldl (fun b a => (g a).foldl f b) b = (l.flatMap g).foldl f b
  | [], _ => rfl
  | a :: l, b => by
    simp only [List.foldl, List.flatMap_cons, List.foldl_append]
    exact fold_flat f g l _
theorem docFar_eq (s : Int → Int → Int → Int) {M : Int} {v : V3} (hM : 0 < M) (hx : 0 ≤ v.x ∧ v.x < M) (hy : 0 ≤ v.y ∧ v.y < M) (hz : 0 ≤ v.z ∧ v.z < M) : docFar s M v = (allV M v).foldl (fun b u => updS b (s u.x u.y u.z)) (-1) := by
  unfold docFar allV
  rw [docZ_img _ hM hx.1 hx.2, ← fold_flat]
  congr 1
  funext b x
  unfold docOut
  rw [docZ_img _ hM hy.1 hy.2, ← fold_flat]
  congr 1
  funext b y
  unfold docMid
  rw [docZ_img _ hM hz.1 hz.2, ← fold_map (fun b (u : V3) => updS b (s u.x u.y u.z)) (fun z => (⟨x, y, z⟩ : V3))]
  rfl
theorem imgL_E {x m : Int} (hm : 0 < m) (hm2 : m ≤ 1000) (hx : 0 ≤ x ∧ x < m) : imgL x m = imgE x m := by
  unfold imgL imgE
  rw [W_in (n := 0 - m) (by omega), W_in (n := x - m) (by omega), Int.zero_sub]
theorem farF_eq (m : G6) {M : Int} {v : V3} (hM : 0 < M) (hM2 : M ≤ 1000) (hx : 0 ≤ v.x ∧ v.x < M) (hy : 0 ≤ v.y ∧ v.y < M) (hz : 0 ≤ v.z ∧ v.z < M) (l : Int) : farF m M v l = (allV M v).foldl (fun b u => min2I b (sW m u.x u.y u.z)) l := by
  unfold farF allV midF
  rw [imgL_E hM hM2 hx, imgL_E hM hM2 hy, imgL_E hM hM2 hz, ← fold_flat]
  congr 1
  funext b x
  rw [← fold_flat]
  congr 1
  funext b y
  rw [← fold_map (fun b (u : V3) => min2I b (sW m u.x u.y u.z)) (fun z => (⟨x, y, z⟩ : V3))]
/-! The least of a list -/
def IsMin (l : List Int) (n : Int) : Prop := n ∈ l ∧ ∀ x ∈ l, n ≤ x
theorem IsMin.unique {l : List Int} {n k : Int} (h : IsMin l n) (g : IsMin l k) : n = k := by
  have := h.2 k g.1
  have := g.2 n h.1
  omega
theorem fold_min : ∀ (l : List Int) (a : Int), IsMin (a :: l) (l.foldl min2I a)
  | [], a => ⟨by simp, fun x hx => by simp at hx; simp [hx]⟩
  | x :: l, a => by
    have h := fold_min l (min2I a x)
    have m := min2I_le a x
    simp only [List.foldl]
    constructor
    · rcases List.mem_cons.1 h.1 with e | e
      · rw [e]; rcases m.2.2 with c | c <;> rw [c] <;> simp
      · simp [e]
    · intro y hy
      have h2 := h.2 (min2I a x) (by simp)
      rcases List.mem_cons.1 hy with rfl | hy
      · omega
      · rcases List.mem_cons.1 hy with rfl | hy
        · omega
        · exact h.2 y (by simp [hy])
theorem fold_in {l : List Int} {a : Int} (ha : a ∈ l) : IsMin l (l.foldl min2I a) := by
  have h := fold_min l a
  refine ⟨?_, fun x hx => h.2 x (by simp [hx])⟩
  rcases List.mem_cons.1 h.1 with e | e
  · rw [e]; exact ha
  · exact e
theorem fold_upd : ∀ (l : List Int) (b : Int), 0 ≤ b → (∀ x ∈ l, 0 ≤ x) → l.foldl updS b = l.foldl min2I b
  | [], _, _, _ => rfl
  | x :: l, b, hb, h => by
    have e : updS b x = min2I b x := by
      unfold updS min2I
      rw [decide_eq_false (show ¬ b < 0 by omega)]
      by_cases hx : x < b
      · rw [decide_eq_true hx, if_pos hx]; rfl
      · rw [decide_eq_false hx, if_neg hx]; rfl
    have m := min2I_le b x
    have := h x (by simp)
    simp only [List.foldl]
    rw [e]
    exact fold_upd l _ (by omega) fun y hy => h y (by simp [hy])
theorem fold_doc {l : List Int} (hl : l ≠ []) (h : ∀ x ∈ l, 0 ≤ x) : IsMin l (l.foldl updS (-1)) := by
  cases l with
  | nil => exact absurd rfl hl
  | cons x l =>
    simp only [List.foldl]
    rw [show updS (-1) x = x from rfl, fold_upd l x (h x (by simp)) fun y hy => h y (by simp [hy])]
    exact fold_min l x
theorem img_bd {x m : Int} (hm : 0 < m) (hx : 0 ≤ x ∧ x < m) : ∀ t ∈ imgE x m, -m ≤ t ∧ t ≤ m := by
  unfold imgE
  intro t ht
  split at ht <;> simp only [List.mem_cons, List.not_mem_nil, or_false] at ht <;> omega
theorem self_img {x m : Int} : x ∈ imgE x m := by
  unfold imgE
  split
  · rename_i h; simp [h]
  · simp
theorem mem_allV {M : Int} {v u : V3} : u ∈ allV M v ↔ u.x ∈ imgE v.x M ∧ u.y ∈ imgE v.y M ∧ u.z ∈ imgE v.z M := by
  unfold allV
  simp only [List.mem_flatMap, List.mem_map]
  constructor
  · rintro ⟨x, hx, y, hy, z, hz, rfl⟩; exact ⟨hx, hy, hz⟩
  · rintro ⟨hx, hy, hz⟩; exact ⟨u.x, hx, u.y, hy, u.z, hz, rfl⟩
theorem img_neg {x m : Int} (hm : 0 < m) (hx : 0 ≤ x ∧ x < m) {t : Int} (h : t ∈ imgE x m) : -t ∈ imgE ((-x) % m) m := by
  have e : (-x) % m = if x = 0 then 0 else m - x := by
    split
    · rename_i h; rw [h]; simp
    · rename_i h0
      rw [show -x = (m - x) + m * (-1) by omega, Int.add_mul_emod_self_left]
      exact Int.emod_eq_of_lt (by omega) (by omega)
  rw [e]
  unfold imgE at *
  by_cases h0 : x = 0
  · subst h0
    simp only [if_true] at h ⊢
    simp only [List.mem_cons, List.not_mem_nil, or_false] at h ⊢
    omega
  · rw [if_neg h0] at h ⊢
    rw [if_neg (by omega)]
    simp only [List.mem_cons, List.not_mem_nil, or_false] at h ⊢
    omega
end Go.Proofs.Ytofblakbfmjgkaa.Vx
