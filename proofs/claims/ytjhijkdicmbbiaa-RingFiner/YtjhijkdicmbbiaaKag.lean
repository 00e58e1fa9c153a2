/-
  The functions of layers 1 and 2 (vec, frac) as functions of matrices, columns and places: what the executor finds (rows of tests, 't..'), and what that comes to ('f..'). Nothing here is trusted.
-/
import Derived.Test.YtjhijkdicmbbiaaKaf
import Derived.Test.YtjhijkdicmbbiaaKae

namespace Go.Proofs.Ytjhijkdicmbbiaa.Vx
open Go

structure O3 where
  (r : M3) (t : V3)
structure P3 where
  (m : Int) (x : V3)
def O3.zero : O3 := ⟨M3.zero, V3.zero⟩
def P3.zero : P3 := ⟨0, V3.zero⟩

/-! Values -/
def vI (n : Int) : Value := .int .i64 n
def vB (b : Bool) : Value := .bool b
def M3.v (m : M3) : Value := .agg #[.int .i64 m.a, .int .i64 m.b, .int .i64 m.c, .int .i64 m.d, .int .i64 m.e, .int .i64 m.f, .int .i64 m.g, .int .i64 m.h, .int .i64 m.i]
def V3.v (u : V3) : Value := .agg #[.int .i64 u.x, .int .i64 u.y, .int .i64 u.z]
def O3.v (o : O3) : Value := .agg #[.int .i64 o.r.a, .int .i64 o.r.b, .int .i64 o.r.c, .int .i64 o.r.d, .int .i64 o.r.e, .int .i64 o.r.f, .int .i64 o.r.g, .int .i64 o.r.h, .int .i64 o.r.i, .int .i64 o.t.x, .int .i64 o.t.y, .int .i64 o.t.z]
def P3.v (p : P3) : Value := .agg #[.int .i64 p.m, .int .i64 p.x.x, .int .i64 p.x.y, .int .i64 p.x.z]
def p2 (a b : Value) : Value := .tuple #[a, b]

/-! Comparisons, as the executor makes them -/
def M3.eqB (m n : M3) : Bool := eq9 m.a m.b m.c m.d m.e m.f m.g m.h m.i n.a n.b n.c n.d n.e n.f n.g n.h n.i
def V3.eqB (u v : V3) : Bool := eq3 u.x u.y u.z v.x v.y v.z
def O3.eqB (o p : O3) : Bool := o.r.eqB p.r && (o.t.eqB p.t && true)
def P3.eqB (p q : P3) : Bool := (p.m == q.m) && (p.x.eqB q.x && true)
theorem M3.eqB_iff {m n : M3} : m.eqB n = true ↔ m = n := by
  cases m; cases n
  simp only [M3.eqB, eq9, eq3, Bool.and_eq_true, beq_iff_eq, M3.mk.injEq, and_true, and_assoc]
theorem V3.eqB_iff {m n : V3} : m.eqB n = true ↔ m = n := by
  cases m; cases n
  simp only [V3.eqB, eq3, Bool.and_eq_true, beq_iff_eq, V3.mk.injEq, and_true]
theorem O3.eqB_iff {m n : O3} : m.eqB n = true ↔ m = n := by
  cases m; cases n
  simp only [O3.eqB, Bool.and_eq_true, M3.eqB_iff, V3.eqB_iff, O3.mk.injEq, and_true]
theorem P3.eqB_iff {m n : P3} : m.eqB n = true ↔ m = n := by
  cases m; cases n
  simp only [P3.eqB, Bool.and_eq_true, V3.eqB_iff, P3.mk.injEq, and_true, beq_iff_eq]
theorem M3.eqB_refl (m : M3) : m.eqB m = true := M3.eqB_iff.2 rfl
theorem V3.eqB_refl (m : V3) : m.eqB m = true := V3.eqB_iff.2 rfl
theorem O3.eqB_refl (m : O3) : m.eqB m = true := O3.eqB_iff.2 rfl
theorem P3.eqB_refl (m : P3) : m.eqB m = true := P3.eqB_iff.2 rfl
theorem M3.eqB_false {m n : M3} : m.eqB n = false ↔ m ≠ n := by rw [Ne, ← M3.eqB_iff, Bool.not_eq_true]
theorem V3.eqB_false {m n : V3} : m.eqB n = false ↔ m ≠ n := by rw [Ne, ← V3.eqB_iff, Bool.not_eq_true]
theorem O3.eqB_false {m n : O3} : m.eqB n = false ↔ m ≠ n := by rw [Ne, ← O3.eqB_iff, Bool.not_eq_true]
theorem P3.eqB_false {m n : P3} : m.eqB n = false ↔ m ≠ n := by rw [Ne, ← P3.eqB_iff, Bool.not_eq_true]

/-! Bounds -/
def M3.l (m : M3) : List Int := [m.a, m.b, m.c, m.d, m.e, m.f, m.g, m.h, m.i]
def V3.l (m : V3) : List Int := [m.x, m.y, m.z]
def M3.ok (m : M3) : Bool := inB 1000 m.l
def V3.ok (v : V3) : Bool := inB 2147483648 v.l
def M3.Bd (n : Int) (m : M3) : Prop := (-n ≤ m.a ∧ m.a ≤ n) ∧ (-n ≤ m.b ∧ m.b ≤ n) ∧ (-n ≤ m.c ∧ m.c ≤ n) ∧ (-n ≤ m.d ∧ m.d ≤ n) ∧ (-n ≤ m.e ∧ m.e ≤ n) ∧ (-n ≤ m.f ∧ m.f ≤ n) ∧ (-n ≤ m.g ∧ m.g ≤ n) ∧ (-n ≤ m.h ∧ m.h ≤ n) ∧ (-n ≤ m.i ∧ m.i ≤ n)
def V3.Bd (n : Int) (m : V3) : Prop := (-n ≤ m.x ∧ m.x ≤ n) ∧ (-n ≤ m.y ∧ m.y ≤ n) ∧ (-n ≤ m.z ∧ m.z ≤ n)
theorem M3.ok_iff {m : M3} : m.ok = true ↔ m.Bd 1000 := by
  unfold M3.ok M3.l M3.Bd
  rw [inB_iff]
  simp only [List.mem_cons, List.not_mem_nil, or_false, forall_eq_or_imp, forall_eq]
theorem V3.ok_iff {m : V3} : m.ok = true ↔ m.Bd 2147483648 := by
  unfold V3.ok V3.l V3.Bd
  rw [inB_iff]
  simp only [List.mem_cons, List.not_mem_nil, or_false, forall_eq_or_imp, forall_eq]
theorem M3.Bd.mono {m : M3} {k n : Int} (h : m.Bd k) (hk : k ≤ n) : m.Bd n := by unfold M3.Bd at *; omega
theorem V3.Bd.mono {m : V3} {k n : Int} (h : m.Bd k) (hk : k ≤ n) : m.Bd n := by unfold V3.Bd at *; omega
/-- Products of three with three. -/
theorem dot_bd {m n a b c d e f : Int} (ha : -m ≤ a ∧ a ≤ m) (hb : -m ≤ b ∧ b ≤ m) (hc : -m ≤ c ∧ c ≤ m) (hd : -n ≤ d ∧ d ≤ n) (he : -n ≤ e ∧ e ≤ n) (hf : -n ≤ f ∧ f ≤ n) :
    -(3 * (m * n)) ≤ a * d + b * e + c * f ∧ a * d + b * e + c * f ≤ 3 * (m * n) := by
  have h1 := bd_mul ha hd
  have h2 := bd_mul hb he
  have h3 := bd_mul hc hf
  omega
theorem min_bd {m n a b c d : Int} (ha : -m ≤ a ∧ a ≤ m) (hb : -n ≤ b ∧ b ≤ n) (hc : -m ≤ c ∧ c ≤ m) (hd : -n ≤ d ∧ d ≤ n) :
    -(2 * (m * n)) ≤ a * b - c * d ∧ a * b - c * d ≤ 2 * (m * n) := by
  have h1 := bd_mul ha hb
  have h2 := bd_mul hc hd
  omega
theorem M3.Bd.mul {m n : M3} {k l : Int} (hm : m.Bd k) (hn : n.Bd l) : (m.mul n).Bd (3 * (k * l)) := by
  obtain ⟨a, b, c, d, e, f, g, h, i⟩ := hm
  obtain ⟨a', b', c', d', e', f', g', h', i'⟩ := hn
  exact ⟨dot_bd a b c a' d' g', dot_bd a b c b' e' h', dot_bd a b c c' f' i', dot_bd d e f a' d' g', dot_bd d e f b' e' h', dot_bd d e f c' f' i', dot_bd g h i a' d' g', dot_bd g h i b' e' h', dot_bd g h i c' f' i'⟩
theorem M3.Bd.app {m : M3} {v : V3} {k l : Int} (hm : m.Bd k) (hn : v.Bd l) : (m.app v).Bd (3 * (k * l)) := by
  obtain ⟨a, b, c, d, e, f, g, h, i⟩ := hm
  obtain ⟨x, y, z⟩ := hn
  exact ⟨dot_bd a b c x y z, dot_bd d e f x y z, dot_bd g h i x y z⟩
theorem M3.Bd.adj {m : M3} {k : Int} (hm : m.Bd k) : m.adj.Bd (2 * (k * k)) := by
  obtain ⟨a, b, c, d, e, f, g, h, i⟩ := hm
  exact ⟨min_bd e i f h, min_bd h c i b, min_bd b f c e, min_bd f g d i, min_bd i a g c, min_bd c d a f, min_bd d h e g, min_bd g b h a, min_bd a e b d⟩
theorem M3.Bd.det {m : M3} {k : Int} (hm : m.Bd k) : -(3 * (k * (2 * (k * k)))) ≤ m.det ∧ m.det ≤ 3 * (k * (2 * (k * k))) := by
  obtain ⟨a, b, c, d, e, f, g, h, i⟩ := hm
  exact dot_bd a b c (min_bd e i f h) (min_bd f g d i) (min_bd d h e g)
theorem M3.Bd.inv {m : M3} {k : Int} (hm : m.Bd k) (hu : m.U) : m.inv.Bd (2 * (k * k)) := by
  have h := hm.adj
  unfold M3.Bd M3.inv M3.smul at *
  simp only
  rcases hu with e | e <;> rw [e] <;> omega

/-- A number wrapped round that lies within. -/
theorem W_in {n : Int} (h : -9000000000000000000 ≤ n ∧ n ≤ 9000000000000000000) : W n = n := W_id (by omega) (by omega)

/-! vec -/
def M3.ck (m : M3) : Int := bif m.ok then 0 else 4
theorem chk_ck (m : M3) : chk m.a m.b m.c m.d m.e m.f m.g m.h m.i = m.ck := chk_eq _ _ _ _ _ _ _ _ _
def unitB (d : Int) : Bool := d == 1 || d == -1
theorem unitB_iff {d : Int} : unitB d = true ↔ (d = 1 ∨ d = -1) := by simp [unitB]
/-- What keeps a matrix from being in form. -/
def M3.form (m : M3) : Int := bif m.ok then (bif unitB m.det then 0 else 3) else 4
theorem M3.form_zero {m : M3} : m.form = 0 ↔ m.ok = true ∧ m.U := by
  unfold M3.form M3.U
  rw [← unitB_iff]
  cases m.ok <;> cases unitB m.det <;> simp

def tWithin (v : V3) (n : Int) : Option Value := chainO mk1 (withinT v.x v.y v.z n) [0]
def fWithin (v : V3) (n : Int) : Value := vI (withinR v.x v.y v.z n)
theorem tWithin_eq (v : V3) (n : Int) : tWithin v n = some (fWithin v n) := by
  unfold tWithin fWithin
  rw [chain_eq]; rfl
def tCheck (m : M3) : Option Value := chainO mk1 (checkT m.a m.b m.c m.d m.e m.f m.g m.h m.i) [0]
def fCheck (m : M3) : Value := vI m.ck
theorem tCheck_eq (m : M3) : tCheck m = some (fCheck m) := by
  unfold tCheck fCheck
  rw [chain_eq, ← chk_ck]; rfl
def tBoth (m : M3) (v : V3) : Option Value := chainO mk1 [(m.ck != 0, [m.ck])] [withinR v.x v.y v.z 2147483648]
def fBoth (m : M3) (v : V3) : Value := vI (bif m.ok && v.ok then 0 else 4)
theorem tBoth_eq (m : M3) (v : V3) : tBoth m v = some (fBoth m v) := by
  unfold tBoth fBoth
  rw [chain_eq, within_eq _ _ _ _ (by omega) (by omega)]
  change some (mk1 (chainL [(m.ck != 0, [m.ck])] [bif v.ok then 0 else 4])) = _
  unfold M3.ck
  cases m.ok <;> cases v.ok <;> rfl
def prodW (m n : M3) : List Int := prodL m.a m.b m.c m.d m.e m.f m.g m.h m.i n.a n.b n.c n.d n.e n.f n.g n.h n.i
theorem dotR_in {a b c d e f : Int} (h : -9000000000000000000 ≤ a * d + b * e + c * f ∧ a * d + b * e + c * f ≤ 9000000000000000000) : dotR a b c d e f = a * d + b * e + c * f := by rw [dotR_W, W_in h]
theorem prodW_eq {m n : M3} (h : (m.mul n).Bd 9000000000000000000) : prodW m n = (m.mul n).l := by
  obtain ⟨h0, h1, h2, h3, h4, h5, h6, h7, h8⟩ := h
  simp only [prodW, prodL, M3.l]
  rw [dotR_in h0, dotR_in h1, dotR_in h2, dotR_in h3, dotR_in h4, dotR_in h5, dotR_in h6, dotR_in h7, dotR_in h8]
  rfl
def tMul (m n : M3) : Option Value := chainO mkMe [(m.ck != 0, zeros9 m.ck), (n.ck != 0, zeros9 n.ck)] (prodW m n ++ [0])
def M3.mulF (m n : M3) : M3 := bif m.ok && n.ok then m.mul n else M3.zero
def fMul (m n : M3) : Value := p2 (m.mulF n).v (vI (bif m.ok && n.ok then 0 else 4))
theorem tMul_eq (m n : M3) : tMul m n = some (fMul m n) := by
  unfold tMul fMul M3.mulF
  rw [chain_eq]
  unfold M3.ck
  cases h1 : m.ok <;> cases h2 : n.ok <;> simp only [cond_true, cond_false, Bool.and_true, Bool.and_false, chainL, bne_self_eq_false]
  · rfl
  · rfl
  · rfl
  · rw [prodW_eq (((M3.ok_iff.1 h1).mul (M3.ok_iff.1 h2)).mono (by omega))]; rfl
def appW (m : M3) (v : V3) : List Int := [dotR m.a m.b m.c v.x v.y v.z, dotR m.d m.e m.f v.x v.y v.z, dotR m.g m.h m.i v.x v.y v.z]
theorem appW_eq {m : M3} {v : V3} (h : (m.app v).Bd 9000000000000000000) : appW m v = (m.app v).l := by
  obtain ⟨h0, h1, h2⟩ := h
  simp only [appW, V3.l]
  rw [dotR_in h0, dotR_in h1, dotR_in h2]
  rfl
def tApply (m : M3) (v : V3) : Option Value := chainO mkVe [((bif m.ok && v.ok then 0 else 4 : Int) != 0, [0, 0, 0, bif m.ok && v.ok then 0 else 4])] (appW m v ++ [0])
def M3.appF (m : M3) (v : V3) : V3 := bif m.ok && v.ok then m.app v else V3.zero
def fApply (m : M3) (v : V3) : Value := p2 (m.appF v).v (vI (bif m.ok && v.ok then 0 else 4))
theorem tApply_eq (m : M3) (v : V3) : tApply m v = some (fApply m v) := by
  unfold tApply fApply M3.appF
  rw [chain_eq]
  cases h1 : m.ok <;> cases h2 : v.ok <;> simp only [cond_true, cond_false, Bool.and_true, Bool.and_false, chainL, bne_self_eq_false]
  · rfl
  · rfl
  · rfl
  · rw [appW_eq (((M3.ok_iff.1 h1).app (V3.ok_iff.1 h2)).mono (by omega))]; rfl
def detW (m : M3) : Int := detR m.a m.b m.c m.d m.e m.f m.g m.h m.i
theorem detW_W (m : M3) : detW m = W m.det := detR_eq _ _ _ _ _ _ _ _ _
theorem detW_eq {m : M3} (h : m.ok = true) : detW m = m.det := by
  rw [detW_W, W_in]
  have := (M3.ok_iff.1 h).det
  omega
def tDet (m : M3) : Option Value := chainO mkIe [(m.ck != 0, [0, m.ck])] [detW m, 0]
def fDet (m : M3) : Value := p2 (vI (bif m.ok then m.det else 0)) (vI m.ck)
theorem tDet_eq (m : M3) : tDet m = some (fDet m) := by
  unfold tDet fDet
  rw [chain_eq]
  unfold M3.ck
  cases h : m.ok
  · rfl
  · rw [detW_eq h]; rfl
def invW (m : M3) : List Int := invL m.a m.b m.c m.d m.e m.f m.g m.h m.i
theorem minR_in {a b c d : Int} (h : -9000000000000000000 ≤ a * b - c * d ∧ a * b - c * d ≤ 9000000000000000000) : minR a b c d = a * b - c * d := by rw [minR_W, W_in h]
theorem invW_eq {m : M3} (h : m.ok = true) (hu : m.U) : invW m = m.inv.l := by
  have hb := M3.ok_iff.1 h
  have hd : detR m.a m.b m.c m.d m.e m.f m.g m.h m.i = m.det := detW_eq h
  obtain ⟨h0, h1, h2, h3, h4, h5, h6, h7, h8⟩ := hb.adj.mono (show 2 * (1000 * 1000) ≤ 9000000000000000000 by omega)
  have hw := (hb.inv hu).mono (show 2 * (1000 * 1000) ≤ 9000000000000000000 by omega)
  obtain ⟨k0, k1, k2, k3, k4, k5, k6, k7, k8⟩ := hw
  simp only [invW, invL, hd]
  simp only [M3.adj] at h0 h1 h2 h3 h4 h5 h6 h7 h8
  rw [minR_in h0, minR_in h1, minR_in h2, minR_in h3, minR_in h4, minR_in h5, minR_in h6, minR_in h7, minR_in h8]
  simp only [M3.inv, M3.smul, M3.adj] at k0 k1 k2 k3 k4 k5 k6 k7 k8
  rw [W_in k0, W_in k1, W_in k2, W_in k3, W_in k4, W_in k5, W_in k6, W_in k7, W_in k8]
  rfl
def tInverse (m : M3) : Option Value :=
  match m.ck != 0 with
  | true => some (mkMe (zeros9 m.ck))
  | false => match detW m != 1 with
    | true => match detW m != -1 with
      | true => some (mkMe (zeros9 3))
      | false => some (mkMe (invW m ++ [0]))
    | false => some (mkMe (invW m ++ [0]))
def M3.invF (m : M3) : M3 := bif m.form == 0 then m.inv else M3.zero
def fInverse (m : M3) : Value := p2 m.invF.v (vI m.form)
theorem tInverse_eq (m : M3) : tInverse m = some (fInverse m) := by
  unfold tInverse fInverse M3.invF M3.form M3.ck
  cases h : m.ok
  · rfl
  · simp only [cond_true, bne_self_eq_false, detW_eq h]
    by_cases h1 : m.det = 1
    · rw [invW_eq h (Or.inl h1), h1]; rfl
    · by_cases h2 : m.det = -1
      · rw [invW_eq h (Or.inr h2), h2]; rfl
      · have e1 : (m.det != 1) = true := by simpa using h1
        have e2 : (m.det != -1) = true := by simpa using h2
        have e3 : unitB m.det = false := by simp [unitB, h1, h2]
        rw [e1, e2, e3]; rfl
/-- The first of 1, 2, 3, 4, 6 that makes a power the identity; 0: none. -/
def M3.ordI (m : M3) : Int :=
  bif m.eqB M3.one then 1 else bif (m.pow 2).eqB M3.one then 2 else bif (m.pow 3).eqB M3.one then 3 else bif (m.pow 4).eqB M3.one then 4 else bif (m.pow 6).eqB M3.one then 6 else 0
def lM (l : List Int) : M3 := ⟨nth l 0, nth l 1, nth l 2, nth l 3, nth l 4, nth l 5, nth l 6, nth l 7, nth l 8⟩
theorem lM_l (m : M3) : lM m.l = m := rfl
def tOrder (m : M3) : Option Value :=
  chainO mkIe [(m.form != 0, [0, m.form]), (m.eqB M3.one, [1, 0]), (m.eqB m.invF, [2, 0]), ((lM (prodW m m)).eqB m.invF, [3, 0]), ((lM (prodW m m)).eqB (lM (prodW m.invF m.invF)), [4, 0]),
    ((lM (prodW (lM (prodW m m)) (lM (prodW m m)))).eqB (lM (prodW m.invF m.invF)), [6, 0])] [0, 9]
def M3.ordF (m : M3) : Int := bif m.form == 0 then m.ordI else 0
def M3.ordE (m : M3) : Int := bif m.form == 0 then (bif m.ordI == 0 then 9 else 0) else m.form
def fOrder (m : M3) : Value := p2 (vI m.ordF) (vI m.ordE)
theorem beq_of_iff {p q : Bool} (h : p = true ↔ q = true) : p = q := by cases p <;> cases q <;> simp_all
theorem M3.pow2 (m : M3) : m.pow 2 = m.mul m := by simp only [M3.pow]; rw [M3.mul_one]
theorem M3.cancel_iff {m x y : M3} (h : m.U) : x = y ↔ m.mul x = m.mul y := ⟨fun e => by rw [e], M3.cancel_left h⟩
theorem tOrder_eq (m : M3) : tOrder m = some (fOrder m) := by
  unfold tOrder fOrder M3.ordF M3.ordE
  rw [chain_eq]
  by_cases hf : m.form = 0
  · obtain ⟨hok, hu⟩ := M3.form_zero.1 hf
    have hb := M3.ok_iff.1 hok
    have hi := hb.inv hu
    have e0 : m.invF = m.inv := by unfold M3.invF; rw [hf]; rfl
    have hmm := hb.mul hb
    have hii := hi.mul hi
    rw [e0, prodW_eq (hmm.mono (by omega)), prodW_eq (hii.mono (by omega)), lM_l, lM_l, prodW_eq ((hmm.mul hmm).mono (by omega)), lM_l, hf]
    have k2 : m.eqB m.inv = (m.pow 2).eqB M3.one := beq_of_iff (by rw [M3.eqB_iff, M3.eqB_iff, M3.pow2, M3.cancel_iff hu, M3.mul_inv hu])
    have k3 : (m.mul m).eqB m.inv = (m.pow 3).eqB M3.one := beq_of_iff (by
      rw [M3.eqB_iff, M3.eqB_iff, M3.cancel_iff hu, M3.mul_inv hu]; simp only [M3.pow]; rw [M3.mul_one])
    have k4 : (m.mul m).eqB (m.inv.mul m.inv) = (m.pow 4).eqB M3.one := beq_of_iff (by
      rw [M3.eqB_iff, M3.eqB_iff, M3.cancel_iff hu, ← M3.mul_assoc m m.inv, M3.mul_inv hu, M3.one_mul, M3.cancel_iff hu, M3.mul_inv hu]; simp only [M3.pow]; rw [M3.mul_one])
    have k6 : ((m.mul m).mul (m.mul m)).eqB (m.inv.mul m.inv) = (m.pow 6).eqB M3.one := beq_of_iff (by
      rw [M3.eqB_iff, M3.eqB_iff, M3.cancel_iff hu, ← M3.mul_assoc m m.inv, M3.mul_inv hu, M3.one_mul, M3.cancel_iff hu, M3.mul_inv hu]; simp only [M3.pow]; rw [M3.mul_one, M3.mul_assoc m m])
    rw [k2, k3, k4, k6]
    unfold M3.ordI
    cases m.eqB M3.one <;> cases (m.pow 2).eqB M3.one <;> cases (m.pow 3).eqB M3.one <;> cases (m.pow 4).eqB M3.one <;> cases (m.pow 6).eqB M3.one <;> rfl
  · have e1 : (m.form != 0) = true := by simpa using hf
    have e2 : (m.form == 0) = false := by simpa using hf
    rw [e1, e2]; rfl
/-- What ordI tells. -/
theorem M3.ordI_spec {m : M3} (h : m.ordI ≠ 0) : ∃ n : Nat, m.ordI = n ∧ m.IsOrd n ∧ (n = 1 ∨ n = 2 ∨ n = 3 ∨ n = 4 ∨ n = 6) := by
  unfold M3.ordI at h ⊢
  cases h1 : m.eqB M3.one with
  | true => exact ⟨1, rfl, M3.ord1 (M3.eqB_iff.1 h1), by omega⟩
  | false =>
    cases h2 : (m.pow 2).eqB M3.one with
    | true => exact ⟨2, rfl, M3.ord2 (M3.eqB_false.1 h1) (M3.eqB_iff.1 h2), by omega⟩
    | false =>
      cases h3 : (m.pow 3).eqB M3.one with
      | true => exact ⟨3, rfl, M3.ord3 (M3.eqB_false.1 h1) (M3.eqB_iff.1 h3), by omega⟩
      | false =>
        cases h4 : (m.pow 4).eqB M3.one with
        | true => exact ⟨4, rfl, M3.ord4 (M3.eqB_false.1 h1) (M3.eqB_false.1 h2) (M3.eqB_iff.1 h4), by omega⟩
        | false =>
          cases h6 : (m.pow 6).eqB M3.one with
          | true => exact ⟨6, rfl, M3.ord6 (M3.eqB_false.1 h1) (M3.eqB_false.1 h2) (M3.eqB_false.1 h3) (M3.eqB_iff.1 h6), by omega⟩
          | false => rw [h1, h2, h3, h4, h6] at h; exact absurd rfl h
theorem M3.ordI_of {m : M3} {n : Nat} (h : m.IsOrd n) (hn : n = 1 ∨ n = 2 ∨ n = 3 ∨ n = 4 ∨ n = 6) : m.ordI = n := by
  have key : ∀ k, (m.pow k).eqB M3.one = decide (n ∣ k) := fun k => beq_of_iff (by rw [M3.eqB_iff, h.dvd k]; simp)
  unfold M3.ordI
  have k1 : m.eqB M3.one = decide (n ∣ 1) := by rw [← key, M3.pow_one]
  rw [k1, key, key, key, key]
  rcases hn with rfl | rfl | rfl | rfl | rfl <;> rfl

/-! frac -/
def md (n m : Int) : Int := match decide (Int.tmod n m < 0) with
  | true => W (Int.tmod n m + m)
  | false => Int.tmod n m
theorem md_emod (n m : Int) (h0 : 0 < m) (h1 : m ≤ 1000) : md n m = n % m := by
  unfold md
  have h := Int.tmod_add_mul_tdiv n m
  have hb := tmod_bd n m h0
  have e2 : (n.tmod m) % m = n % m := by
    conv => rhs; rw [← h]
    rw [Int.add_mul_emod_self_left]
  by_cases hn : n.tmod m < 0
  · have : decide (n.tmod m < 0) = true := by simpa using hn
    rw [this]
    simp only
    rw [W_in (by omega), ← e2]
    have : (n.tmod m + m) % m = n.tmod m % m := Int.add_emod_right _ _
    rw [← this, Int.emod_eq_of_lt (by omega) (by omega)]
  · have : decide (n.tmod m < 0) = false := by simpa using hn
    rw [this]
    simp only
    rw [← e2, Int.emod_eq_of_lt (by omega) (by omega)]
/-- A number that is divided by: above 0, and not too great. -/
def modB (m : Int) : Bool := decide (0 < m) && decide (m ≤ 1000)
theorem modB_iff {m : Int} : modB m = true ↔ 0 < m ∧ m ≤ 1000 := by simp [modB]
def tResidue (n m : Int) : Option Value := match m == 0 with
  | true => none
  | false => match decide (Int.tmod n m < 0) with
    | true => some (.int .i64 (W (Int.tmod n m + m)))
    | false => some (.int .i64 (Int.tmod n m))
theorem tResidue_eq {n m : Int} (h : modB m = true) : tResidue n m = some (vI (n % m)) := by
  obtain ⟨h0, h1⟩ := modB_iff.1 h
  have e : (m == 0) = false := by simp; omega
  rw [← md_emod n m h0 h1]
  unfold tResidue md vI
  rw [e]
  cases decide (Int.tmod n m < 0) <;> rfl
def V3.a24 (u v : V3) : V3 := ⟨(u.x % 24 + v.x % 24) % 24, (u.y % 24 + v.y % 24) % 24, (u.z % 24 + v.z % 24) % 24⟩
theorem V3.a24_eq (u v : V3) : u.a24 v = (u.add v).md 24 := by
  unfold V3.a24 V3.add V3.md
  simp only [V3.mk.injEq]
  omega
theorem mod24_in (x y : Int) : W (x % 24 + y % 24) = x % 24 + y % 24 := W_in (by omega)
def tAdd (u v : V3) : Option Value := some (V3.v ⟨W (u.x % 24 + v.x % 24) % 24, W (u.y % 24 + v.y % 24) % 24, W (u.z % 24 + v.z % 24) % 24⟩)
def fAdd (u v : V3) : Value := ((u.add v).md 24).v
theorem tAdd_eq (u v : V3) : tAdd u v = some (fAdd u v) := by
  unfold tAdd fAdd
  rw [mod24_in, mod24_in, mod24_in, ← V3.a24_eq]; rfl
def tNeg (u : V3) : Option Value := some (V3.v ⟨W (0 - u.x % 24) % 24, W (0 - u.y % 24) % 24, W (0 - u.z % 24) % 24⟩)
def fNeg (u : V3) : Value := (u.neg.md 24).v
theorem tNeg_eq (u : V3) : tNeg u = some (fNeg u) := by
  unfold tNeg fNeg
  rw [W_in (by omega), W_in (by omega), W_in (by omega)]
  have : u.neg.md 24 = ⟨(0 - u.x % 24) % 24, (0 - u.y % 24) % 24, (0 - u.z % 24) % 24⟩ := by
    unfold V3.neg V3.md; simp only [V3.mk.injEq]; omega
  rw [this]
def V3.smul (n : Int) (u : V3) : V3 := ⟨n * u.x, n * u.y, n * u.z⟩
def tTimes (n : Int) (u : V3) : Option Value := some (V3.v ⟨W (n % 24 * (u.x % 24)) % 24, W (n % 24 * (u.y % 24)) % 24, W (n % 24 * (u.z % 24)) % 24⟩)
def fTimes (n : Int) (u : V3) : Value := ((u.smul n).md 24).v
theorem times_in (n x : Int) : W (n % 24 * (x % 24)) % 24 = n * x % 24 := by
  have h1 : 0 ≤ n % 24 ∧ n % 24 < 24 := by omega
  have h2 : 0 ≤ x % 24 ∧ x % 24 < 24 := by omega
  have := bd_mul (m := 24) (n := 24) (x := n % 24) (y := x % 24) (by omega) (by omega)
  rw [W_in (by omega), ← Int.mul_emod]
theorem tTimes_eq (n : Int) (u : V3) : tTimes n u = some (fTimes n u) := by
  unfold tTimes fTimes V3.smul V3.md
  rw [times_in, times_in, times_in]
def isF (m : Int) : Bool := (m == 24) || ((m == 48) || ((m == 96) || (m == 192)))
theorem isF_iff {m : Int} : isF m = true ↔ m = 24 ∨ m = 48 ∨ m = 96 ∨ m = 192 := by simp [isF]
theorem isF_modB {m : Int} (h : isF m = true) : modB m = true := by
  rw [modB_iff]; rcases isF_iff.1 h with rfl | rfl | rfl | rfl <;> omega
def tFine (m : Int) : Option Value := match m == 24 with
  | true => some (.bool true)
  | false => match m == 48 with
    | true => some (.bool true)
    | false => match m == 96 with
      | true => some (.bool true)
      | false => some (.bool (m == 192))
def fFine (m : Int) : Value := .bool (isF m)
theorem tFine_eq (m : Int) : tFine m = some (fFine m) := by
  unfold tFine fFine isF
  cases m == 24 <;> cases m == 48 <;> cases m == 96 <;> rfl
/-- Go on where this holds. -/
def onO (b : Bool) (k : Option Value) : Option Value := match b with
  | true => k
  | false => none
theorem onO_true {b : Bool} (h : b = true) (k : Option Value) : onO b k = k := by subst h; rfl
def P3.form (p : P3) : Bool := isF p.m && p.x.eqB (p.x.md p.m)
def tPForm (p : P3) : Option Value := match isF p.m with
  | true => onO (modB p.m) (onO (modB p.m) (onO (modB p.m) (some (.bool (p.x.eqB (p.x.md p.m))))))
  | false => some (.bool false)
def fPForm (p : P3) : Value := .bool p.form
theorem tPForm_eq (p : P3) : tPForm p = some (fPForm p) := by
  unfold tPForm fPForm P3.form
  cases h : isF p.m with
  | true => simp only [onO_true (isF_modB h), Bool.true_and]
  | false => rfl
theorem P3.form_spec {p : P3} (h : p.form = true) : (p.m = 24 ∨ p.m = 48 ∨ p.m = 96 ∨ p.m = 192) ∧ (0 ≤ p.x.x ∧ p.x.x < p.m) ∧ (0 ≤ p.x.y ∧ p.x.y < p.m) ∧ (0 ≤ p.x.z ∧ p.x.z < p.m) := by
  unfold P3.form at h
  rw [Bool.and_eq_true] at h
  have hm := isF_iff.1 h.1
  have hx := V3.eqB_iff.1 h.2
  refine ⟨hm, ?_⟩
  have e1 : p.x.x = p.x.x % p.m := congrArg V3.x hx
  have e2 : p.x.y = p.x.y % p.m := congrArg V3.y hx
  have e3 : p.x.z = p.x.z % p.m := congrArg V3.z hx
  rcases hm with e | e | e | e <;> rw [e] at e1 e2 e3 ⊢ <;> omega
def tPlace (m : Int) (v : V3) : Option Value := match !(isF m) with
  | true => some (p2 P3.zero.v (vI 1))
  | false => onO (modB m) (onO (modB m) (onO (modB m) (some (p2 (P3.v ⟨m, v.md m⟩) (vI 0)))))
def P3.place (m : Int) (v : V3) : P3 := bif isF m then ⟨m, v.md m⟩ else P3.zero
def fPlace (m : Int) (v : V3) : Value := p2 (P3.place m v).v (vI (bif isF m then 0 else 1))
theorem tPlace_eq (m : Int) (v : V3) : tPlace m v = some (fPlace m v) := by
  unfold tPlace fPlace P3.place
  cases h : isF m with
  | true => simp only [Bool.not_true, onO_true (isF_modB h), cond_true]
  | false => rfl
def shW (m x t : Int) : Int := W (x + W (t % 24 * W (Int.tdiv m 24))) % m
def tShift (p : P3) (t : V3) : Option Value := match !p.form with
  | true => some (p2 P3.zero.v (vI 3))
  | false => onO (modB p.m) (onO (modB p.m) (onO (modB p.m) (some (p2 (P3.v ⟨p.m, ⟨shW p.m p.x.x t.x, shW p.m p.x.y t.y, shW p.m p.x.z t.z⟩⟩) (vI 0)))))
def P3.shift (p : P3) (t : V3) : P3 := ⟨p.m, (p.x.add (t.smul (p.m / 24))).md p.m⟩
theorem smul_comm' (a b : Int) : b * a = a * b := Int.mul_comm _ _
def fShift (p : P3) (t : V3) : Value := p2 (bif p.form then p.shift t else P3.zero).v (vI (bif p.form then 0 else 3))
theorem shW_eq {m x : Int} (t : Int) (hm : m = 24 ∨ m = 48 ∨ m = 96 ∨ m = 192) (hx : 0 ≤ x ∧ x < m) : shW m x t = (x + m / 24 * t) % m := by
  unfold shW
  rcases hm with rfl | rfl | rfl | rfl
  · rw [show W (Int.tdiv 24 24) = 1 from rfl, W_in (n := t % 24 * 1) (by omega), W_in (by omega)]; omega
  · rw [show W (Int.tdiv 48 24) = 2 from rfl, W_in (n := t % 24 * 2) (by omega), W_in (by omega)]; omega
  · rw [show W (Int.tdiv 96 24) = 4 from rfl, W_in (n := t % 24 * 4) (by omega), W_in (by omega)]; omega
  · rw [show W (Int.tdiv 192 24) = 8 from rfl, W_in (n := t % 24 * 8) (by omega), W_in (by omega)]; omega
theorem tShift_eq (p : P3) (t : V3) : tShift p t = some (fShift p t) := by
  unfold tShift fShift
  cases h : p.form with
  | true =>
    obtain ⟨hm, h1, h2, h3⟩ := P3.form_spec h
    have hmod : modB p.m = true := modB_iff.2 (by omega)
    simp only [Bool.not_true, onO_true hmod, cond_true]
    rw [shW_eq _ hm h1, shW_eq _ hm h2, shW_eq _ hm h3]
    rfl
  | false => rfl
end Go.Proofs.Ytjhijkdicmbbiaa.Vx


namespace Go.Proofs.Ytjhijkdicmbbiaa.Vx
open Go

def ptrIs (v : Option Value) (b : Nat) : Bool := match v with
  | some (.pointer (some ⟨c, 0, none⟩)) => Nat.beq c b
  | _ => false
theorem ptrIs_spec {v : Option Value} {b : Nat} (h : ptrIs v b = true) : v = some (.pointer (some ⟨b, 0, none⟩)) := by
  unfold ptrIs at h
  split at h
  · rw [Nat.eq_of_beq_eq_true h]
  · cases h
def intAt (v : Option Value) : Option Int := match v with
  | some (.int .i64 n) => some n
  | _ => none
theorem intAt_spec {v : Option Value} {n : Int} (h : intAt v = some n) : v = some (.int .i64 n) := by
  unfold intAt at h
  split at h
  · simp only [Option.some.injEq] at h; rw [h]
  · cases h
def aggAt (v : Option Value) : List Value := match v with
  | some (.agg cs) => cs.toList
  | _ => []
theorem aggAt_spec {v : Option Value} {l : List Value} (h : aggAt v = l) (hl : l ≠ []) : v = some (.agg l.toArray) := by
  unfold aggAt at h
  split at h
  · rename_i cs; rw [← h]
  · exact absurd h.symm hl
def O3.cells (o : O3) : List Value := [.int .i64 o.r.a, .int .i64 o.r.b, .int .i64 o.r.c, .int .i64 o.r.d, .int .i64 o.r.e, .int .i64 o.r.f, .int .i64 o.r.g, .int .i64 o.r.h, .int .i64 o.r.i, .int .i64 o.t.x, .int .i64 o.t.y, .int .i64 o.t.z]
def V3.cells (o : V3) : List Value := [.int .i64 o.x, .int .i64 o.y, .int .i64 o.z]
def M3.cells (m : M3) : List Value := [.int .i64 m.a, .int .i64 m.b, .int .i64 m.c, .int .i64 m.d, .int .i64 m.e, .int .i64 m.f, .int .i64 m.g, .int .i64 m.h, .int .i64 m.i]
def i64s : List Value → Option (List Int)
  | [] => some []
  | .int .i64 n :: l => match i64s l with
    | some r => some (n :: r)
    | none => none
  | _ => none
theorem i64s_spec : ∀ {l : List Value} {r : List Int}, i64s l = some r → l = r.map (.int .i64)
  | [], r, h => by simp [i64s] at h; subst h; rfl
  | v :: l, r, h => by
    unfold i64s at h
    split at h
    · rename_i heq; cases heq
    · rename_i n l' heq
      simp only [List.cons.injEq] at heq
      obtain ⟨rfl, rfl⟩ := heq
      split at h
      · rename_i q hq
        simp only [Option.some.injEq] at h
        subst h
        rw [List.map_cons, ← i64s_spec hq]
      · cases h
    · cases h
def opCells (l : List Value) : Option O3 := match i64s l with
  | some [a, b, c, d, e, f, g, h, i, x, y, z] => some ⟨⟨a, b, c, d, e, f, g, h, i⟩, ⟨x, y, z⟩⟩
  | _ => none
theorem opCells_spec {l : List Value} {o : O3} (h : opCells l = some o) : l = o.cells := by
  unfold opCells at h
  split at h
  · rename_i hq
    simp only [Option.some.injEq] at h
    subst h
    rw [i64s_spec hq]; rfl
  · cases h
def vecCells (l : List Value) : Option V3 := match i64s l with
  | some [x, y, z] => some ⟨x, y, z⟩
  | _ => none
theorem vecCells_spec {l : List Value} {o : V3} (h : vecCells l = some o) : l = o.cells := by
  unfold vecCells at h
  split at h
  · rename_i hq
    simp only [Option.some.injEq] at h
    subst h
    rw [i64s_spec hq]; rfl
  · cases h
def matCells (l : List Value) : Option M3 := match i64s l with
  | some [a, b, c, d, e, f, g, h, i] => some ⟨a, b, c, d, e, f, g, h, i⟩
  | _ => none
theorem matCells_spec {l : List Value} {o : M3} (h : matCells l = some o) : l = o.cells := by
  unfold matCells at h
  split at h
  · rename_i hq
    simp only [Option.some.injEq] at h
    subst h
    rw [i64s_spec hq]; rfl
  · cases h
def ownCells : Option Blk → List Value
  | some (.cells true 0 c) => c
  | _ => []
theorem ownCells_spec {k : Option Blk} {c : List Value} (h : ownCells k = c) (hc : c ≠ []) : k = some (.cells true 0 c) := by
  unfold ownCells at h
  split at h
  · rw [h]
  · exact absurd h.symm hc
theorem mem_of {m : Mem} : ∀ {l : List Blk}, m.length = l.length → (∀ i, i < l.length → m[i]? = l[i]?) → m = l := by
  intro l hl h
  apply List.ext_getElem?
  intro i
  by_cases hi : i < l.length
  · exact h i hi
  · rw [List.getElem?_eq_none (by omega), List.getElem?_eq_none (by omega)]
end Go.Proofs.Ytjhijkdicmbbiaa.Vx


namespace Go.Proofs.Ytjhijkdicmbbiaa.Vx
open Go

/-- The cells of a list's maps. -/
def opRow (l : List O3) : Nat → List Value := fun i => ((l[i]?).getD O3.zero).cells
def decO (l : List Value) : O3 := match opCells l with
  | some o => o
  | none => O3.zero
def isO (l : List Value) : Bool := match opCells l with
  | some _ => true
  | none => false
def okOps (n : Nat) (row : Nat → List Value) : Bool := (List.range n).all fun i => isO (row i)
def opsOf (n : Nat) (row : Nat → List Value) : List O3 := (List.range n).map fun i => decO (row i)
theorem opCells_cells (o : O3) : opCells o.cells = some o := rfl
theorem isO_cells (o : O3) : isO o.cells = true := rfl
theorem decO_cells (o : O3) : decO o.cells = o := rfl
theorem okOps_opRow (xs : List O3) (n : Nat) : okOps n (opRow xs) = true := List.all_eq_true.2 fun _ _ => isO_cells _
theorem opsOf_opRow (xs : List O3) : opsOf xs.length (opRow xs) = xs := by
  apply List.ext_getElem?
  intro i
  unfold opsOf opRow
  rw [List.getElem?_map]
  by_cases hi : i < xs.length
  · rw [List.getElem?_range hi, List.getElem?_eq_getElem hi]
    simp [decO_cells, List.getElem?_eq_getElem hi]
  · rw [List.getElem?_eq_none (by simp; omega), List.getElem?_eq_none (by omega)]; rfl
theorem opsOf_length (n : Nat) (row : Nat → List Value) : (opsOf n row).length = n := by simp [opsOf]
theorem ops_like {n : Nat} {row : Nat → List Value} (h : okOps n row = true) : rowsLike n row (opRow (opsOf n row)) := by
  intro i hi
  have := List.all_eq_true.1 h i (List.mem_range.2 hi)
  unfold isO at this
  split at this
  · rename_i o ho
    unfold opRow opsOf
    rw [List.getElem?_map, List.getElem?_range hi]
    simp only [Option.map_some, Option.getD_some, decO, ho]
    exact opCells_spec ho
  · cases this
theorem like_ops {own : Bool} {n : Nat} {row : Nat → List Value} (h : okOps n row = true) : Like (.rows own true 12 n row) (.rows own true 12 (opsOf n row).length (opRow (opsOf n row))) := by
  rw [opsOf_length]; exact .rows (ops_like h)
theorem blt_ff {a b : Nat} (h : ¬ a < b) : Nat.blt a b = false := by
  cases hb : Nat.blt a b with
  | false => rfl
  | true => exact absurd (Nat.blt_eq.mp hb) h
/-- One map behind others. -/
theorem catR_one (xs : List O3) (o : O3) (i : Nat) (hi : i < xs.length + 1) : catR xs.length (opRow xs) (chop 12 0 o.cells) i = opRow (xs ++ [o]) i := by
  unfold catR opRow
  by_cases h : i < xs.length
  · rw [show Nat.blt i xs.length = true by simpa [Nat.blt_eq] using h, List.getElem?_append_left h]
  · have : i = xs.length := by omega
    subst this
    rw [blt_ff (Nat.lt_irrefl _)]
    simp only [Nat.sub_self]
    rw [List.getElem?_append_right (Nat.le_refl _)]
    simp only [Nat.sub_self, List.getElem?_cons_zero, Option.getD_some]
    rfl
theorem like_ng {pl : Bool} {n : Nat} {xs : List O3} (hx : xs.length = n) (o : O3) : Like (.grow pl 12 (n + 1) (catR n (opRow xs) (chop 12 0 o.cells))) (.grow pl 12 (n + 1) (opRow (xs ++ [o]))) := by
  subst hx
  exact .grow fun i hi => catR_one xs o i hi
theorem like_nr {own pl : Bool} {n : Nat} {xs : List O3} (hx : xs.length = n) (o : O3) : Like (.rows own pl 12 (n + 1) (catR n (opRow xs) (chop 12 0 o.cells))) (.rows own pl 12 (n + 1) (opRow (xs ++ [o]))) := by
  subst hx
  exact .rows fun i hi => catR_one xs o i hi
theorem like_chop {own pl : Bool} (o : O3) : Like (.rows own pl 12 1 (chop 12 0 o.cells)) (.rows own pl 12 1 (opRow [o])) := .rows fun i hi => by
  have : i = 0 := by omega
  subst this
  rfl
theorem like_one {own pl : Bool} (xs : List O3) (o : O3) : Like (.rows own pl 12 (xs.length + 1) (catR xs.length (opRow xs) (chop 12 0 o.cells))) (.rows own pl 12 (xs ++ [o]).length (opRow (xs ++ [o]))) := by
  rw [List.length_append]
  exact .rows fun i hi => catR_one xs o i hi

theorem like_oneg {pl : Bool} (xs : List O3) (o : O3) : Like (.grow pl 12 (xs.length + 1) (catR xs.length (opRow xs) (chop 12 0 o.cells))) (.grow pl 12 (xs ++ [o]).length (opRow (xs ++ [o]))) := by
  rw [List.length_append]
  exact .grow fun i hi => catR_one xs o i hi

/-! Guards -/
def tAt (st : St) (i : Nat) : Option Value := st.tmps[i]?
def gd {α : Type} (b : Bool) (x : Option α) : Option α := match b with
  | true => x
  | false => none
theorem gd_true {α : Type} (x : Option α) : gd true x = x := rfl
theorem LoopSem.like {P : Program} {B : Nat} {x : Code} {tm : List Value} {m m2 : Mem} {s : St} {e : Exit} (h : LoopSem P B x ⟨tm, m2⟩ e s) (hl : LikeL m m2) : LoopSem P B x ⟨tm, m⟩ e s := by
  intro Q w0 keep r0 a w hB hQ hr
  refine h Q w0 keep r0 a w hB hQ ?_
  obtain ⟨r, hx, h1, h2, h3⟩ := hr
  exact ⟨r, hx, h1, h2, h3.like hl⟩
theorem beq_len {a b : Nat} (h : Nat.beq a b = true) : a = b := Nat.eq_of_beq_eq_true h
/-- Of two errors the lesser one, 0 being none. -/
def leastN (a b : Int) : Int := match a == 0 with
  | true => b
  | false => match b != 0 with
    | true => match decide (b < a) with
      | true => b
      | false => a
    | false => a
end Go.Proofs.Ytjhijkdicmbbiaa.Vx


namespace Go.Proofs.Ytjhijkdicmbbiaa.Vx
open Go
/-- The number of 64 bits, none of them a sign's, that is left of a whole number. -/
def U (n : Int) : Int := IntKind.wrap .u64 n
theorem U_eq (n : Int) : U n = n % 18446744073709551616 := by
  unfold U IntKind.wrap
  simp only [IntKind.bits, IntKind.signed]
  have h1 : ((2 : Int) ^ 64) = 18446744073709551616 := rfl
  simp only [h1, Bool.false_and]
  rfl
theorem U_in {n : Int} (h : 0 ≤ n ∧ n ≤ 18446744073709551615) : U n = n := by rw [U_eq]; omega
def vU (n : Int) : Value := .int .u64 n
/-- Products in two words. -/
def and32 (x : Int) : Int := U ((BitVec.ofInt 64 x &&& BitVec.ofInt 64 4294967295).toNat : Int)
def shr32 (x : Int) : Int := x.fdiv (2 ^ 32)
theorem shr32_eq (x : Int) : shr32 x = x / 4294967296 := by
  unfold shr32
  rw [Int.fdiv_eq_ediv_of_nonneg _ (by decide)]; rfl
theorem and32_eq {x : Int} (h : 0 ≤ x ∧ x ≤ 18446744073709551615) : and32 x = x % 4294967296 := by
  obtain ⟨n, rfl⟩ : ∃ n : Nat, x = (n : Int) := ⟨x.toNat, by omega⟩
  unfold and32
  rw [BitVec.toNat_and]
  have e1 : (BitVec.ofInt 64 (n : Int)).toNat = n := by
    rw [BitVec.toNat_ofInt]; omega
  have e2 : (BitVec.ofInt 64 4294967295).toNat = 2 ^ 32 - 1 := by decide
  rw [e1, e2, Nat.and_two_pow_sub_one_eq_mod, U_in (by omega)]
  omega
def m64w0 (x y : Int) : Int := U (and32 x * and32 y)
def m64t (x y : Int) : Int := U (U (shr32 x * and32 y) + shr32 (m64w0 x y))
def m64w1 (x y : Int) : Int := U (and32 (m64t x y) + U (and32 x * shr32 y))
def m64hi (x y : Int) : Int := U (U (U (shr32 x * shr32 y) + shr32 (m64t x y)) + shr32 (m64w1 x y))
theorem m64_hi {x y : Int} (hx : 0 ≤ x ∧ x ≤ 18446744073709551615) (hy : 0 ≤ y ∧ y ≤ 18446744073709551615) : m64hi x y = x * y / 18446744073709551616 := by
  have x0 := and32_eq hx
  have y0 := and32_eq hy
  have x1 := shr32_eq x
  have y1 := shr32_eq y
  obtain ⟨a0, ha0⟩ : ∃ a, a = x % 4294967296 := ⟨_, rfl⟩
  obtain ⟨a1, ha1⟩ : ∃ a, a = x / 4294967296 := ⟨_, rfl⟩
  obtain ⟨b0, hb0⟩ : ∃ a, a = y % 4294967296 := ⟨_, rfl⟩
  obtain ⟨b1, hb1⟩ : ∃ a, a = y / 4294967296 := ⟨_, rfl⟩
  have r0 : 0 ≤ a0 ∧ a0 ≤ 4294967295 := by omega
  have r1 : 0 ≤ a1 ∧ a1 ≤ 4294967295 := by omega
  have s0 : 0 ≤ b0 ∧ b0 ≤ 4294967295 := by omega
  have s1 : 0 ≤ b1 ∧ b1 ≤ 4294967295 := by omega
  have ex : x = a1 * 4294967296 + a0 := by omega
  have ey : y = b1 * 4294967296 + b0 := by omega
  have nn : ∀ {a b : Int}, 0 ≤ a ∧ a ≤ 4294967295 → 0 ≤ b ∧ b ≤ 4294967295 → 0 ≤ a * b ∧ a * b ≤ 18446744065119617025 := fun {a b} p q => ⟨Int.mul_nonneg p.1 q.1, by
    have := Int.mul_le_mul p.2 q.2 q.1 (by omega : (0 : Int) ≤ 4294967295)
    omega⟩
  have p := nn r1 s1
  have q := nn r1 s0
  have r := nn r0 s1
  have s := nn r0 s0
  have exy : x * y = a1 * b1 * 18446744073709551616 + a1 * b0 * 4294967296 + a0 * b1 * 4294967296 + a0 * b0 := by rw [ex, ey]; grind
  have t0 : m64w0 x y = a0 * b0 := by unfold m64w0; rw [x0, y0, ← ha0, ← hb0]; exact U_in (by omega)
  have t1 : m64t x y = a1 * b0 + a0 * b0 / 4294967296 := by
    unfold m64t
    rw [t0, x1, y0, ← ha1, ← hb0, shr32_eq, U_in (n := a1 * b0) (by omega)]
    exact U_in (by omega)
  have t2 : m64w1 x y = (a1 * b0 + a0 * b0 / 4294967296) % 4294967296 + a0 * b1 := by
    unfold m64w1
    rw [t1, x0, y1, ← ha0, ← hb1, and32_eq (by omega), U_in (n := a0 * b1) (by omega)]
    exact U_in (by omega)
  unfold m64hi
  rw [t2, t1, x1, y1, ← ha1, ← hb1, shr32_eq, shr32_eq, exy]
  generalize a1 * b1 = P at *
  generalize a1 * b0 = Q at *
  generalize a0 * b1 = R at *
  generalize a0 * b0 = S at *
  clear t0 t1 t2 exy
  rw [U_in (n := P) (by omega), U_in (n := P + _) (by omega), U_in (by omega)]
  omega
def u64B (x : Int) : Bool := decide (0 ≤ x) && decide (x ≤ 18446744073709551615)
theorem u64B_iff {x : Int} : u64B x = true ↔ 0 ≤ x ∧ x ≤ 18446744073709551615 := by simp [u64B]
theorem u64B_U (n : Int) : u64B (U n) = true := u64B_iff.2 (by rw [U_eq]; omega)

/-! ## Two words -/
def hiW (v : Int) : Int := v / 18446744073709551616 % 18446744073709551616
def loW (v : Int) : Int := v % 18446744073709551616
def decW (h l : Int) : Int := h * 18446744073709551616 + l
def wV (v : Int) : Value := .agg #[.int .u64 (hiW v), .int .u64 (loW v)]
theorem hiW_ok (v : Int) : u64B (hiW v) = true := u64B_iff.2 (by unfold hiW; omega)
theorem loW_ok (v : Int) : u64B (loW v) = true := u64B_iff.2 (by unfold loW; omega)
theorem dec_hl (v : Int) : decW (hiW v) (loW v) = v % 340282366920938463463374607431768211456 := by unfold decW hiW loW; omega
/-- Alike in 128 bits. -/
theorem wV_congr {v w : Int} (h : v % 340282366920938463463374607431768211456 = w % 340282366920938463463374607431768211456) : hiW v = hiW w ∧ loW v = loW w := by
  unfold hiW loW
  constructor <;> omega
theorem wV_add (v w : Int) : wV (decW (hiW v) (loW v) + decW (hiW w) (loW w)) = wV (v + w) := by
  unfold wV
  obtain ⟨h1, h2⟩ := wV_congr (v := decW (hiW v) (loW v) + decW (hiW w) (loW w)) (w := v + w) (by rw [dec_hl, dec_hl]; omega)
  rw [h1, h2]
theorem wV_sub (v w : Int) : wV (decW (hiW v) (loW v) - decW (hiW w) (loW w)) = wV (v - w) := by
  unfold wV
  obtain ⟨h1, h2⟩ := wV_congr (v := decW (hiW v) (loW v) - decW (hiW w) (loW w)) (w := v - w) (by rw [dec_hl, dec_hl]; omega)
  rw [h1, h2]
/-- Two sums: the low words, then the high ones with what is carried. -/
theorem add_words {h1 l1 h2 l2 : Int} (a : u64B h1 = true) (b : u64B l1 = true) (c : u64B h2 = true) (d : u64B l2 = true) :
    ((l1.toNat + l2.toNat + (0 : Int).toNat) / 2 ^ 64 ≤ 1) ∧ Int.ofNat ((l1.toNat + l2.toNat + (0 : Int).toNat) % 2 ^ 64) = loW (decW h1 l1 + decW h2 l2) ∧ Int.ofNat ((h1.toNat + h2.toNat + (Int.ofNat ((l1.toNat + l2.toNat + (0 : Int).toNat) / 2 ^ 64)).toNat) % 2 ^ 64) = hiW (decW h1 l1 + decW h2 l2) := by
  rw [u64B_iff] at a b c d
  obtain ⟨p, rfl⟩ : ∃ n : Nat, h1 = (n : Int) := ⟨h1.toNat, by omega⟩
  obtain ⟨q, rfl⟩ : ∃ n : Nat, l1 = (n : Int) := ⟨l1.toNat, by omega⟩
  obtain ⟨r, rfl⟩ : ∃ n : Nat, h2 = (n : Int) := ⟨h2.toNat, by omega⟩
  obtain ⟨s, rfl⟩ : ∃ n : Nat, l2 = (n : Int) := ⟨l2.toNat, by omega⟩
  unfold decW hiW loW
  simp only [Int.toNat_natCast, Int.toNat_zero, Nat.add_zero, Int.ofNat_eq_natCast]
  refine ⟨by omega, by omega, by omega⟩
theorem sub_words {h1 l1 h2 l2 : Int} (a : u64B h1 = true) (b : u64B l1 = true) (c : u64B h2 = true) (d : u64B l2 = true) :
    ((Int.ofNat (if l1.toNat < l2.toNat + (0 : Int).toNat then 1 else 0)).toNat ≤ 1) ∧ Int.ofNat ((l1.toNat + 2 ^ 64 - l2.toNat - (0 : Int).toNat) % 2 ^ 64) = loW (decW h1 l1 - decW h2 l2) ∧ Int.ofNat ((h1.toNat + 2 ^ 64 - h2.toNat - (Int.ofNat (if l1.toNat < l2.toNat + (0 : Int).toNat then 1 else 0)).toNat) % 2 ^ 64) = hiW (decW h1 l1 - decW h2 l2) := by
  rw [u64B_iff] at a b c d
  obtain ⟨p, rfl⟩ : ∃ n : Nat, h1 = (n : Int) := ⟨h1.toNat, by omega⟩
  obtain ⟨q, rfl⟩ : ∃ n : Nat, l1 = (n : Int) := ⟨l1.toNat, by omega⟩
  obtain ⟨r, rfl⟩ : ∃ n : Nat, h2 = (n : Int) := ⟨h2.toNat, by omega⟩
  obtain ⟨s, rfl⟩ : ∃ n : Nat, l2 = (n : Int) := ⟨l2.toNat, by omega⟩
  unfold decW hiW loW
  simp only [Int.toNat_natCast, Int.toNat_zero, Nat.add_zero, Int.ofNat_eq_natCast]
  by_cases h : q < s
  · rw [if_pos h]
    refine ⟨by omega, by omega, by omega⟩
  · rw [if_neg h]
    refine ⟨by omega, by omega, by omega⟩
def i64B (x : Int) : Bool := decide (-9223372036854775808 ≤ x) && decide (x ≤ 9223372036854775807)
theorem i64B_iff {x : Int} : i64B x = true ↔ -9223372036854775808 ≤ x ∧ x ≤ 9223372036854775807 := by simp [i64B]
theorem wid_words {n : Int} (h : i64B n = true) : U (n.fdiv (2 ^ 63)) = hiW n ∧ U n = loW n := by
  rw [i64B_iff] at h
  rw [U_eq, U_eq, Int.fdiv_eq_ediv_of_nonneg _ (by decide)]
  unfold hiW loW
  rw [show (2 : Int) ^ 63 = 9223372036854775808 from rfl]
  constructor <;> omega
theorem prod_words {a b : Int} (ha : i64B a = true) (hb : i64B b = true) (hi : Int) (hh : hi = U a * U b / 18446744073709551616) :
    U (a * b) = loW (a * b) ∧ (match decide (b < 0) with
      | true => U ((match decide (a < 0) with | true => U (hi - U b) | false => hi) - U a)
      | false => (match decide (a < 0) with | true => U (hi - U b) | false => hi)) = hiW (a * b) := by
  rw [i64B_iff] at ha hb
  have nn : ∀ {x y : Int}, 0 ≤ x ∧ x ≤ 18446744073709551615 → 0 ≤ y ∧ y ≤ 18446744073709551615 → 0 ≤ x * y ∧ x * y ≤ 340282366920938463426481119284349108225 := fun {x y} p q => ⟨Int.mul_nonneg p.1 q.1, by
    have := Int.mul_le_mul p.2 q.2 q.1 (by omega : (0 : Int) ≤ 18446744073709551615)
    omega⟩
  refine ⟨by rw [U_eq]; rfl, ?_⟩
  by_cases h1 : a < 0 <;> by_cases h2 : b < 0
  · have e1 : U a = a + 18446744073709551616 := by rw [U_eq]; omega
    have e2 : U b = b + 18446744073709551616 := by rw [U_eq]; omega
    rw [decide_eq_true h1, decide_eq_true h2]
    simp only
    have ex : U a * U b = a * b + (a + b) * 18446744073709551616 + 340282366920938463463374607431768211456 := by rw [e1, e2]; grind
    rw [ex] at hh
    rw [U_eq, U_eq, e1, e2]
    unfold hiW
    generalize a * b = P at *
    omega
  · have e1 : U a = a + 18446744073709551616 := by rw [U_eq]; omega
    have e2 : U b = b := by rw [U_eq]; omega
    rw [decide_eq_true h1, decide_eq_false h2]
    simp only
    have ex : U a * U b = a * b + b * 18446744073709551616 := by rw [e1, e2]; grind
    rw [ex] at hh
    rw [U_eq, e2]
    unfold hiW
    generalize a * b = P at *
    omega
  · have e1 : U a = a := by rw [U_eq]; omega
    have e2 : U b = b + 18446744073709551616 := by rw [U_eq]; omega
    rw [decide_eq_false h1, decide_eq_true h2]
    simp only
    have ex : U a * U b = a * b + a * 18446744073709551616 := by rw [e1, e2]; grind
    rw [ex] at hh
    rw [U_eq, e1]
    unfold hiW
    generalize a * b = P at *
    omega
  · have e1 : U a = a := by rw [U_eq]; omega
    have e2 : U b = b := by rw [U_eq]; omega
    have hp := nn (x := a) (y := b) (by omega) (by omega)
    rw [decide_eq_false h1, decide_eq_false h2]
    simp only
    rw [hh, e1, e2]
    unfold hiW
    generalize a * b = P at *
    omega
end Go.Proofs.Ytjhijkdicmbbiaa.Vx


namespace Go.Proofs.Ytjhijkdicmbbiaa
open Go Vx Go.RowKit
theorem Cx.addRa_ok {C : Cx} (hC : CxOk C) {n : Nat} {f : FuncId} {fn : Func} (hf : C.P.funcs[f]? = some fn) (hok : okFunc C.P f = true) {F : List Value → Option (Bool × Value)}
    (h : ∀ args v, F args = some (true, v) → exFun (C.at f) n fn args = some v) : CxOk (C.addR f F) := by
  have := Cx.addR_ok (C := C.at f) (hC.at f) hf hok (Or.inl rfl) h
  exact ⟨this.mixed, this.tbl, this.tbm, this.keys, this.inl, this.lp, this.rd, this.rd2, this.ext⟩
def p2 (a b : Value) : Value := .tuple #[a, b]
def gd' {α : Type} (b : Bool) (x : Option α) : Option α := match b with
  | true => x
  | false => none
/-- bits.Mul64 -/
theorem e142 (a b : Int) : exFun ((Cr0 Try.prog).at 142) 60 Try.f142 [vU a, vU b] = some (p2 (vU (m64hi a b)) (vU (U (a * b)))) := by kernel_rfl
def F142 : List Value → Option (Bool × Value)
  | [.int .u64 a, .int .u64 b] => some (u64B a && u64B b, p2 (vU (a * b / 18446744073709551616)) (vU (a * b % 18446744073709551616)))
  | _ => none
def Cr142 (P : Program) : Cx := (Cr0 P).addR 142 F142
theorem okr142 : CxOk (Cr142 Try.prog) := Cx.addRa_ok okr0 (n := 60) Try.func142 (by kernel_rfl) fun args v h => by
  unfold F142 at h
  split at h
  · rename_i a b
    simp only [Option.some.injEq, Prod.mk.injEq, Bool.and_eq_true] at h
    obtain ⟨⟨h0, h1⟩, rfl⟩ := h
    rw [← m64_hi (u64B_iff.1 h0) (u64B_iff.1 h1), ← U_eq]
    exact e142 a b
  · cases h
/-- ring.widened -/
theorem e100 (n : Int) : exFun ((Cr142 Try.prog).at 100) 60 Try.f100 [vI n] = some (.agg #[vU (U (n.fdiv (2 ^ 63))), vU (U n)]) := by kernel_rfl
def F100 : List Value → Option (Bool × Value)
  | [.int .i64 n] => some (i64B n, wV n)
  | _ => none
def Cr100 (P : Program) : Cx := (Cr142 P).addR 100 F100
theorem okr100 : CxOk (Cr100 Try.prog) := Cx.addRa_ok okr142 (n := 60) Try.func100 (by kernel_rfl) fun args v h => by
  unfold F100 at h
  split at h
  · rename_i n
    simp only [Option.some.injEq, Prod.mk.injEq] at h
    obtain ⟨h0, rfl⟩ := h
    obtain ⟨g1, g2⟩ := wid_words h0
    refine (e100 n).trans ?_
    rw [g1, g2]
    rfl
  · cases h
/-- ring.plus -/
theorem e99 (h1 l1 h2 l2 : Int) : exFun ((Cr100 Try.prog).at 99) 60 Try.f99 [.agg #[vU h1, vU l1], .agg #[vU h2, vU l2]] = gd' (decide ((Int.ofNat ((l1.toNat + l2.toNat + (0 : Int).toNat) / 2 ^ 64)).toNat ≤ 1)) (some (.agg #[vU (Int.ofNat ((h1.toNat + h2.toNat + (Int.ofNat ((l1.toNat + l2.toNat + (0 : Int).toNat) / 2 ^ 64)).toNat) % 2 ^ 64)), vU (Int.ofNat ((l1.toNat + l2.toNat + (0 : Int).toNat) % 2 ^ 64))])) := by kernel_rfl
def F99 : List Value → Option (Bool × Value)
  | [.agg a, .agg b] => match a.toList, b.toList with
    | [.int .u64 h1, .int .u64 l1], [.int .u64 h2, .int .u64 l2] => some (u64B h1 && (u64B l1 && (u64B h2 && u64B l2)), wV (decW h1 l1 + decW h2 l2))
    | _, _ => none
  | _ => none
def Cr99 (P : Program) : Cx := (Cr100 P).addR 99 F99
theorem okr99 : CxOk (Cr99 Try.prog) := Cx.addRa_ok okr100 (n := 60) Try.func99 (by kernel_rfl) fun args v h => by
  unfold F99 at h
  split at h
  · rename_i a b
    split at h
    · rename_i h1 l1 h2 l2 ea eb
      simp only [Option.some.injEq, Prod.mk.injEq, Bool.and_eq_true] at h
      obtain ⟨⟨c1, c2, c3, c4⟩, rfl⟩ := h
      have ha : a = #[.int .u64 h1, .int .u64 l1] := by apply Array.ext'; simpa using ea
      have hb : b = #[.int .u64 h2, .int .u64 l2] := by apply Array.ext'; simpa using eb
      subst ha hb
      obtain ⟨g1, g2, g3⟩ := add_words c1 c2 c3 c4
      refine (e99 h1 l1 h2 l2).trans ?_
      rw [decide_eq_true (by exact g1), g2, g3]
      rfl
    · cases h
  · cases h
/-- ring.minus -/
theorem e143 (h1 l1 h2 l2 : Int) : exFun ((Cr99 Try.prog).at 143) 60 Try.f143 [.agg #[vU h1, vU l1], .agg #[vU h2, vU l2]] = gd' (decide ((Int.ofNat (if l1.toNat < l2.toNat + (0 : Int).toNat then 1 else 0)).toNat ≤ 1)) (some (.agg #[vU (Int.ofNat ((h1.toNat + 2 ^ 64 - h2.toNat - (Int.ofNat (if l1.toNat < l2.toNat + (0 : Int).toNat then 1 else 0)).toNat) % 2 ^ 64)), vU (Int.ofNat ((l1.toNat + 2 ^ 64 - l2.toNat - (0 : Int).toNat) % 2 ^ 64))])) := by kernel_rfl
def F143 : List Value → Option (Bool × Value)
  | [.agg a, .agg b] => match a.toList, b.toList with
    | [.int .u64 h1, .int .u64 l1], [.int .u64 h2, .int .u64 l2] => some (u64B h1 && (u64B l1 && (u64B h2 && u64B l2)), wV (decW h1 l1 - decW h2 l2))
    | _, _ => none
  | _ => none
def Cr143 (P : Program) : Cx := (Cr99 P).addR 143 F143
theorem okr143 : CxOk (Cr143 Try.prog) := Cx.addRa_ok okr99 (n := 60) Try.func143 (by kernel_rfl) fun args v h => by
  unfold F143 at h
  split at h
  · rename_i a b
    split at h
    · rename_i h1 l1 h2 l2 ea eb
      simp only [Option.some.injEq, Prod.mk.injEq, Bool.and_eq_true] at h
      obtain ⟨⟨c1, c2, c3, c4⟩, rfl⟩ := h
      have ha : a = #[.int .u64 h1, .int .u64 l1] := by apply Array.ext'; simpa using ea
      have hb : b = #[.int .u64 h2, .int .u64 l2] := by apply Array.ext'; simpa using eb
      subst ha hb
      obtain ⟨g1, g2, g3⟩ := sub_words c1 c2 c3 c4
      refine (e143 h1 l1 h2 l2).trans ?_
      rw [decide_eq_true (by exact g1), g2, g3]
      rfl
    · cases h
  · cases h
theorem lo_words (a b : Int) : U a * U b % 18446744073709551616 = loW (a * b) := by
  rw [U_eq, U_eq, ← Int.mul_emod]
  rfl
/-- ring.product -/
theorem e105 (a b : Int) : exFun ((Cr143 Try.prog).at 105) 60 Try.f105 [vI a, vI b] = gd' (u64B (U a) && u64B (U b)) (match decide (a < 0) with
    | true => (match decide (b < 0) with
      | true => some (.agg #[vU (U (U ((U a * U b / 18446744073709551616) - U b) - U a)), vU (U a * U b % 18446744073709551616)])
      | false => some (.agg #[vU (U ((U a * U b / 18446744073709551616) - U b)), vU (U a * U b % 18446744073709551616)]))
    | false => (match decide (b < 0) with
      | true => some (.agg #[vU (U ((U a * U b / 18446744073709551616) - U a)), vU (U a * U b % 18446744073709551616)])
      | false => some (.agg #[vU (U a * U b / 18446744073709551616), vU (U a * U b % 18446744073709551616)]))) := by kernel_rfl
def F105 : List Value → Option (Bool × Value)
  | [.int .i64 a, .int .i64 b] => some (i64B a && i64B b, wV (a * b))
  | _ => none
def Cr105 (P : Program) : Cx := (Cr143 P).addR 105 F105
theorem okr105 : CxOk (Cr105 Try.prog) := Cx.addRa_ok okr143 (n := 60) Try.func105 (by kernel_rfl) fun args v h => by
  unfold F105 at h
  split at h
  · rename_i a b
    simp only [Option.some.injEq, Prod.mk.injEq, Bool.and_eq_true] at h
    obtain ⟨⟨c1, c2⟩, rfl⟩ := h
    obtain ⟨_, g2⟩ := prod_words c1 c2 _ rfl
    refine (e105 a b).trans ?_
    rw [u64B_U, u64B_U, lo_words]
    unfold wV
    rw [← g2]
    cases decide (a < 0) <;> cases decide (b < 0) <;> rfl
  · cases h
/-- Is this one of the four? -/
def fineB (m : Int) : Bool := (m == 24) || ((m == 48) || ((m == 96) || (m == 192)))
theorem fine_tree (m : Int) : (match (m == 24) with
    | true => some (.bool true)
    | false => match (m == 48) with
      | true => some (.bool true)
      | false => match (m == 96) with
        | true => some (.bool true)
        | false => some (.bool (m == 192)) : Option Value) = some (.bool (fineB m)) := by
  unfold fineB
  cases (m == 24) <;> cases (m == 48) <;> cases (m == 96) <;> cases (m == 192) <;> rfl
/-- Within MaxRing? -/
def inRg (n : Int) : Bool := decide (-4503599627370496 ≤ n) && decide (n ≤ 4503599627370496)
theorem bey_tree (n : Int) : (match decide (n < -4503599627370496) with
    | true => some (.bool true)
    | false => some (.bool (decide (n > 4503599627370496))) : Option Value) = some (.bool (!inRg n)) := by
  unfold inRg
  by_cases h : n < -4503599627370496
  · rw [decide_eq_true h, decide_eq_false (by omega : ¬ -4503599627370496 ≤ n)]; rfl
  · rw [decide_eq_false h, decide_eq_true (by omega : -4503599627370496 ≤ n)]
    by_cases k : n > 4503599627370496
    · rw [decide_eq_true k, decide_eq_false (by omega : ¬ n ≤ 4503599627370496)]; rfl
    · rw [decide_eq_false k, decide_eq_true (by omega : n ≤ 4503599627370496)]; rfl
/-- one of the four -/
theorem e107 (m : Int) : exFun ((Cr105 Try.prog).at 107) 60 Try.f107 [vI m] = (match (m == 24) with
    | true => some (.bool true)
    | false => match (m == 48) with
      | true => some (.bool true)
      | false => match (m == 96) with
        | true => some (.bool true)
        | false => some (.bool (m == 192))) := by kernel_rfl
def F107 : List Value → Option (Bool × Value)
  | [.int .i64 m] => some (true, .bool (fineB m))
  | _ => none
def Cr107 (P : Program) : Cx := (Cr105 P).addR 107 F107
theorem okr107 : CxOk (Cr107 Try.prog) := Cx.addRa_ok okr105 (n := 60) Try.func107 (by kernel_rfl) fun args v h => by
  unfold F107 at h
  split at h
  · rename_i m
    simp only [Option.some.injEq, Prod.mk.injEq, true_and] at h
    subst h
    exact (e107 m).trans (fine_tree m)
  · cases h
/-- one of the four -/
theorem e109 (m : Int) : exFun ((Cr107 Try.prog).at 109) 60 Try.f109 [vI m] = (match (m == 24) with
    | true => some (.bool true)
    | false => match (m == 48) with
      | true => some (.bool true)
      | false => match (m == 96) with
        | true => some (.bool true)
        | false => some (.bool (m == 192))) := by kernel_rfl
def F109 : List Value → Option (Bool × Value)
  | [.int .i64 m] => some (true, .bool (fineB m))
  | _ => none
def Cr109 (P : Program) : Cx := (Cr107 P).addR 109 F109
theorem okr109 : CxOk (Cr109 Try.prog) := Cx.addRa_ok okr107 (n := 60) Try.func109 (by kernel_rfl) fun args v h => by
  unfold F109 at h
  split at h
  · rename_i m
    simp only [Option.some.injEq, Prod.mk.injEq, true_and] at h
    subst h
    exact (e109 m).trans (fine_tree m)
  · cases h
/-- ring.isBeyond -/
theorem e118 (n : Int) : exFun ((Cr109 Try.prog).at 118) 60 Try.f118 [vI n] = (match decide (n < -4503599627370496) with
    | true => some (.bool true)
    | false => some (.bool (decide (n > 4503599627370496)))) := by kernel_rfl
def F118 : List Value → Option (Bool × Value)
  | [.int .i64 n] => some (true, .bool (!inRg n))
  | _ => none
def Cr118 (P : Program) : Cx := (Cr109 P).addR 118 F118
theorem okr118 : CxOk (Cr118 Try.prog) := Cx.addRa_ok okr109 (n := 60) Try.func118 (by kernel_rfl) fun args v h => by
  unfold F118 at h
  split at h
  · rename_i n
    simp only [Option.some.injEq, Prod.mk.injEq, true_and] at h
    subst h
    exact (e118 n).trans (bey_tree n)
  · cases h
def Cr1 (P : Program) : Cx := Cr118 P
theorem okr1 : CxOk (Cr1 Try.prog) := okr118
end Go.Proofs.Ytjhijkdicmbbiaa


namespace Go.Proofs.Ytjhijkdicmbbiaa.Vx
open Go Go.RowKit
theorem for_ret {P : Program} {B id : Nat} {c : Code} {st s s' : St} (hf : isFor id c = true) (h1 : CodeSem P B (forHead c) st .normal s) (h2 : LoopSem P B (forBody c) s .ret s') : CodeSem P B c st .ret s' := by
  unfold isFor at hf
  split at hf
  · rename_i x i y
    exact h1.seq (CodeSem.blockR (CodeSem.loop h2))
  · cases hf
/-- The first of c places from i on that has a property. -/
def fst? (t : Nat → Bool) : Nat → Nat → Option Nat
  | 0, _ => none
  | c + 1, i => match t i with
    | true => some i
    | false => fst? t c (i + 1)
theorem fst?_some {t : Nat → Bool} : ∀ {c i k : Nat}, fst? t c i = some k → i ≤ k ∧ k < i + c ∧ t k = true ∧ ∀ j, i ≤ j → j < k → t j = false
  | 0, i, k, h => by simp [fst?] at h
  | c + 1, i, k, h => by
    simp only [fst?] at h
    cases ht : t i with
    | true =>
      rw [ht] at h
      simp only [Option.some.injEq] at h
      subst h
      exact ⟨Nat.le_refl _, by omega, ht, fun j h1 h2 => by omega⟩
    | false =>
      rw [ht] at h
      obtain ⟨h1, h2, h3, h4⟩ := fst?_some h
      refine ⟨by omega, by omega, h3, fun j g1 g2 => ?_⟩
      by_cases hj : j = i
      · subst hj; exact ht
      · exact h4 j (by omega) g2
theorem fst?_none {t : Nat → Bool} : ∀ {c i : Nat}, fst? t c i = none → ∀ j, i ≤ j → j < i + c → t j = false
  | 0, i, h, j, h1, h2 => by omega
  | c + 1, i, h, j, h1, h2 => by
    simp only [fst?] at h
    cases ht : t i with
    | true => rw [ht] at h; cases h
    | false =>
      rw [ht] at h
      by_cases hj : j = i
      · subst hj; exact ht
      · exact fst?_none h j (by omega) (by omega)
theorem fst?_congr {t u : Nat → Bool} : ∀ {c i : Nat}, (∀ j, i ≤ j → j < i + c → t j = u j) → fst? t c i = fst? u c i
  | 0, i, _ => rfl
  | c + 1, i, h => by
    simp only [fst?]
    rw [h i (Nat.le_refl _) (by omega), fst?_congr (c := c) (i := i + 1) fun j h1 h2 => h j (by omega) (by omega)]
theorem scan_loop {C : Cx} (hC : CxOk C) {f B m : Nat} {x : Code} {mask mout : List Nat} {sp so : List From} (hin : InBody (C.into f B) x) {n : Nat} (hn : (n : Int) ≤ 9000000000000000000) (H : Int → St) (t : Nat → Bool) (sx : Nat → St) (id : Nat) (s0 : St)
    (hr : ∀ i : Nat, i ≤ n → roundR (C.into f B) m x mask mout sp so (H (i : Int)) = (match decide ((i : Int) < (n : Int)) with
      | true => gd (boundsI (i : Int) n) (match t i with
        | true => some (.ret, sx i)
        | false => some (.normal, H (W ((i : Int) + 1))))
      | false => some (.exit id, s0))) :
    (∀ k, fst? t n 0 = some k → LoopSem C.P B x (H 0) .ret (sx k)) ∧ (fst? t n 0 = none → LoopSem C.P B x (H 0) (.exit id) s0) := by
  have key : ∀ (c i : Nat), i + c = n → (∀ k, fst? t c i = some k → LoopSem C.P B x (H (i : Int)) .ret (sx k)) ∧ (fst? t c i = none → LoopSem C.P B x (H (i : Int)) (.exit id) s0) := by
    intro c
    induction c with
    | zero =>
      intro i hi
      have h := hr i (by omega)
      rw [show decide ((i : Int) < (n : Int)) = false by simp; omega] at h
      exact ⟨fun k hk => (by simp [fst?] at hk), fun _ => loop_leave hC hin h (by simp)⟩
    | succ c ih =>
      intro i hi
      have h := hr i (by omega)
      rw [show decide ((i : Int) < (n : Int)) = true by simp; omega, bd_ok' (show i < n by omega)] at h
      simp only [gd_true] at h
      simp only [fst?]
      cases ht : t i with
      | true =>
        rw [ht] at h
        refine ⟨fun k hk => ?_, fun hk => by cases hk⟩
        simp only [Option.some.injEq] at hk
        subst hk
        exact loop_leave hC hin h (by simp)
      | false =>
        rw [ht] at h
        rw [show W ((i : Int) + 1) = ((i + 1 : Nat) : Int) by rw [W_in (by omega)]; simp] at h
        have := ih (i + 1) (by omega)
        exact ⟨fun k hk => loop_next hC hin h (StLike.refl _) (this.1 k hk), fun hk => loop_next hC hin h (StLike.refl _) (this.2 hk)⟩
  exact key n 0 (by omega)
end Go.Proofs.Ytjhijkdicmbbiaa.Vx


namespace Go.Proofs.Ytjhijkdicmbbiaa.Vx
open Go Go.RowKit
theorem run_loop {C : Cx} (hC : CxOk C) {f B m : Nat} {x : Code} {mask mout : List Nat} {sp so : List From} (hin : InBody (C.into f B) x) {e : Exit} {sE : St} (he : e ≠ .normal) :
    ∀ (N : Nat) (H : Nat → St), (∀ i, i < N → ∃ s, roundR (C.into f B) m x mask mout sp so (H i) = some (.normal, s) ∧ StLike s (H (i + 1))) → roundR (C.into f B) m x mask mout sp so (H N) = some (e, sE) → LoopSem C.P B x (H 0) e sE
  | 0, H, _, hE => loop_leave hC hin hE he
  | N + 1, H, hr, hE => by
    obtain ⟨s, h1, h2⟩ := hr 0 (by omega)
    exact loop_next hC hin h1 h2 (run_loop hC hin he N (fun i => H (i + 1)) (fun i hi => hr (i + 1) (by omega)) hE)
/-- A loop of so many rounds, each told by code. -/
theorem run_loopC {P : Program} {B : Nat} {x : Code} {e : Exit} {sE : St} (he : e ≠ .normal) :
    ∀ (N : Nat) (H : Nat → St), (∀ i, i < N → CodeSem P B x (H i) .normal (H (i + 1))) → CodeSem P B x (H N) e sE → LoopSem P B x (H 0) e sE
  | 0, H, _, hE => by
    intro Q w0 keep r0 a w hB hQ hr
    refine LoopsTo.round (hE _ w0 keep r0 a w hB ?_ hr)
    intro a' w' hr'
    revert he hQ hr'
    cases e <;> intro he hQ hr' <;> first | exact absurd rfl he | exact hQ a' w' hr'
  | N + 1, H, hr, hE => by
    intro Q w0 keep r0 a w hB hQ hr'
    refine LoopsTo.round (hr 0 (by omega) _ w0 keep r0 a w hB ?_ hr')
    intro a' w' h2
    exact run_loopC he N (fun i => H (i + 1)) (fun i hi => hr (i + 1) (by omega)) hE Q w0 keep r0 a' w' hB hQ h2
/-- Rows of numbers of two words. -/
def wRow (g : Nat → Int) : Nat → List Value := fun i => [.int .u64 (hiW (g i)), .int .u64 (loW (g i))]
/-- Rows of integers. -/
def iRow (g : Nat → Int) : Nat → List Value := fun i => [.int .i64 (g i)]
/-- One put elsewhere. -/
def putG (g : Nat → Int) (j : Nat) (v : Int) : Nat → Int := fun q => if q = j then v else g q
def wid (v : Int) : Int := v % 340282366920938463463374607431768211456
theorem wRow_congr {g h : Nat → Int} {i : Nat} (e : wid (g i) = wid (h i)) : wRow g i = wRow h i := by
  unfold wRow
  obtain ⟨a, b⟩ := wV_congr e
  rw [a, b]
/-- Rows, one of them written. -/
def stR (row : Nat → List Value) (j : Nat) (v : List Value) : Nat → List Value := fun q => match Nat.beq q j with
  | true => setMany (row j) 0 v
  | false => row q
def w2 (v : Int) : List Value := [.int .u64 (hiW v), .int .u64 (loW v)]
theorem beq_ne {q j : Nat} (h : q ≠ j) : Nat.beq q j = false := by
  cases hb : Nat.beq q j with
  | false => rfl
  | true => exact absurd (Nat.eq_of_beq_eq_true hb) h
theorem stR_w (g : Nat → Int) (j : Nat) (v : Int) (q : Nat) : stR (wRow g) j (w2 v) q = wRow (putG g j v) q := by
  unfold stR
  by_cases h : q = j
  · subst h
    rw [Nat.beq_refl]
    simp only [wRow, putG, w2, if_true]
    rfl
  · rw [beq_ne h]
    simp only [wRow, putG, if_neg h]
theorem stR_i (g : Nat → Int) (j : Nat) (v : Int) (q : Nat) : stR (iRow g) j [.int .i64 v] q = iRow (putG g j v) q := by
  unfold stR
  by_cases h : q = j
  · subst h
    rw [Nat.beq_refl]
    simp only [iRow, putG, if_true]
    rfl
  · rw [beq_ne h]
    simp only [iRow, putG, if_neg h]
theorem boundsI_ok {i : Int} {n : Nat} (h : 0 ≤ i ∧ i < (n : Int)) : boundsI i n = true := by simp [boundsI]; omega
theorem w2_add (v w : Int) : w2 (decW (hiW v) (loW v) + decW (hiW w) (loW w)) = w2 (v + w) := by
  have h := wV_add v w
  unfold wV at h
  simp only [Value.agg.injEq] at h
  have := congrArg Array.toList h
  simpa [w2] using this
theorem w2_sub (v w : Int) : w2 (decW (hiW v) (loW v) - decW (hiW w) (loW w)) = w2 (v - w) := by
  have h := wV_sub v w
  unfold wV at h
  simp only [Value.agg.injEq] at h
  have := congrArg Array.toList h
  simpa [w2] using this
/-- One power brought down. -/
def redG (d : Nat) (g : Nat → Int) (i : Nat) : Nat → Int := putG (putG g (i - d / 2) (g (i - d / 2) + g i)) (i - d) (g (i - d) - g i)
/-- So many powers brought down, of n. -/
def redN (d n : Nat) (g : Nat → Int) : Nat → (Nat → Int)
  | 0 => g
  | r + 1 => redG d (redN d n g r) (n - 1 - r)
end Go.Proofs.Ytjhijkdicmbbiaa.Vx


namespace Go.Proofs.Ytjhijkdicmbbiaa
open Go Vx Go.RowKit
def shB (P : Program) : Code := bodyOf P 114
theorem shB_eq : Try.f114.body = some (shB Try.prog) := by kernel_rfl
def shF (P : Program) : Code := forBody (stmt 2 (shB P))
abbrev Wr (n : Nat) (g : Nat → Int) : Blk := .rows true true 2 n (wRow g)
def SW (n : Nat) : Value := .slice (some ⟨0, 0, some 0⟩) n 2
def shH (n : Nat) (g : Nat → Int) (d i : Int) : St := stOf 54 [(1, SW n), (5, vI d), (6, vI i)] [Wr n g]
def shX (n : Nat) (row : Nat → List Value) (d i : Int) : St := stOf 54 [(1, SW n), (5, vI d), (6, vI i)] [.rows true true 2 n row]
theorem shFor : isFor 0 (stmt 2 (shB Try.prog)) = true := by kernel_rfl
theorem shHas : hasStmt 2 (shB Try.prog) = true := by kernel_rfl
theorem shCode : shF Try.prog = .seq (cL (shF Try.prog)) (.seq (.block 1 (.seq (cL (cL (cL (cR (shF Try.prog))))) (cR (cL (cL (cR (shF Try.prog))))))) (cR (cR (shF Try.prog)))) := by kernel_rfl
theorem shA (n : Nat) (g : Nat → Int) (d i : Int) : roundR ((Cr1 Try.prog).into 114 1) 60 (cL (shF Try.prog)) [1, 5, 6] [1, 5, 6] [.fix 0] [.fix 0] (shH n g d i) = (match decide (i ≥ d) with
  | true => some (.normal, shH n g d i)
  | false => some (.exit 0, shH n g d i)) := by kernel_rfl
theorem sh5 (n : Nat) (g : Nat → Int) (d i : Int) : roundR ((Cr1 Try.prog).into 114 1) 60 (cL (cL (cL (cR (shF Try.prog))))) [1, 5, 6] [1, 5, 6] [.fix 0] [.fix 0] (shH n g d i) =
  gd (boundsI (W (i - W (d.tdiv 2))) n) (gd (boundsI i n) (gd (u64B (hiW (g (W (i - W (d.tdiv 2))).toNat)) && (u64B (loW (g (W (i - W (d.tdiv 2))).toNat)) && (u64B (hiW (g i.toNat)) && u64B (loW (g i.toNat))))) (gd (boundsI (W (i - W (d.tdiv 2))) n)
    (some (.normal, shX n (stR (wRow g) (W (i - W (d.tdiv 2))).toNat (w2 (decW (hiW (g (W (i - W (d.tdiv 2))).toNat)) (loW (g (W (i - W (d.tdiv 2))).toNat)) + decW (hiW (g i.toNat)) (loW (g i.toNat))))) d i))))) := by kernel_rfl
theorem sh6 (n : Nat) (g : Nat → Int) (d i : Int) : roundR ((Cr1 Try.prog).into 114 1) 60 (cR (cL (cL (cR (shF Try.prog))))) [1, 5, 6] [1, 5, 6] [.fix 0] [.fix 0] (shH n g d i) =
  gd (boundsI (W (i - d)) n) (gd (boundsI i n) (gd (u64B (hiW (g (W (i - d)).toNat)) && (u64B (loW (g (W (i - d)).toNat)) && (u64B (hiW (g i.toNat)) && u64B (loW (g i.toNat))))) (gd (boundsI (W (i - d)) n)
    (some (.normal, shX n (stR (wRow g) (W (i - d)).toNat (w2 (decW (hiW (g (W (i - d)).toNat)) (loW (g (W (i - d)).toNat)) - decW (hiW (g i.toNat)) (loW (g i.toNat))))) d i))))) := by kernel_rfl
theorem sh4 (n : Nat) (g : Nat → Int) (d i : Int) : roundR ((Cr1 Try.prog).into 114 1) 60 (cR (cR (shF Try.prog))) [1, 5, 6] [1, 5, 6] [.fix 0] [.fix 0] (shH n g d i) = some (.normal, shH n g d (W (i - 1))) := by kernel_rfl
theorem shHead (n : Nat) (g : Nat → Int) (m : Int) : roundR ((Cr1 Try.prog).into 114 1) 60 (forHead (stmt 2 (shB Try.prog))) [1, 5, 6] [1, 5, 6] [.fix 0] [.fix 0] (stOf 54 [(1, SW n), (5, vI m)] [Wr n g]) = some (.normal, shH n g m (W ((n : Int) - 1))) := by kernel_rfl
theorem shP1 (n : Nat) (g : Nat → Int) (m : Int) : segR ((Cr1 Try.prog).into 114 1) 60 2 (shB Try.prog) [1, 5] [.fix 0] (enter Try.f114 [vI m, SW n] [Wr n g]) = some (stOf 54 [(1, SW n), (5, vI (W (m.tdiv 3)))] [Wr n g]) := by kernel_rfl
theorem shEnd (n : Nat) (g : Nat → Int) (d i : Int) : roundR ((Cr1 Try.prog).into 114 1) 60 (seqDrop 3 (shB Try.prog)) [4] [4] [.fix 0] [.fix 0] (shH n g d i) = gd (leI d n) (some (.ret, stOf 54 [(4, .slice (some ⟨0, 0, some 0⟩) d.toNat 2)] [Wr n g])) := by kernel_rfl
theorem shRet (n d : Nat) (g : Nat → Int) : (retA Try.prog Try.f114 (.ret, stOf 54 [(4, .slice (some ⟨0, 0, some 0⟩) d 2)] [Wr n g])).res = some (.slice (some ⟨0, 0, some 0⟩) d 2, [Wr n g]) := by kernel_rfl
end Go.Proofs.Ytjhijkdicmbbiaa


namespace Go.Proofs.Ytjhijkdicmbbiaa
open Go Vx Go.RowKit
theorem tdiv3 (d : Nat) : ((3 * d : Nat) : Int).tdiv 3 = (d : Int) := by
  rw [Int.tdiv_eq_ediv_of_nonneg (by omega)]; omega
theorem tdiv2 (d : Nat) : ((d : Nat) : Int).tdiv 2 = ((d / 2 : Nat) : Int) := by
  rw [Int.tdiv_eq_ediv_of_nonneg (by omega)]; omega
theorem shIn : InBody ((Cr1 Try.prog).into 114 1) (forHead (stmt 2 (shB Try.prog))) ∧ InBody ((Cr1 Try.prog).into 114 1) (shF Try.prog) := for_in (C := Cr1 Try.prog) (f := 114) (B := 1) (id := 0) (k := 2) (fn := Try.f114) (b := shB Try.prog) Try.func114 shB_eq shFor
theorem st_like {n : Nat} {row : Nat → List Value} {g : Nat → Int} {d i : Int} (h : ∀ q, q < n → row q = wRow g q) : StLike (shX n row d i) (shH n g d i) := ⟨rfl, .rows h, trivial⟩
theorem shRound (n d i : Nat) (hd : 2 ≤ d) (h1 : d ≤ i) (h2 : i < n) (hn : n ≤ 1048576) (g : Nat → Int) : CodeSem Try.prog 1 (shF Try.prog) (shH n g d i) .normal (shH n (redG d g i) d ((i : Int) - 1)) := by
  have hA := shA n g d i
  rw [show decide ((i : Int) ≥ (d : Int)) = true by simp; omega] at hA
  have a1 : W ((i : Int) - W ((d : Int).tdiv 2)) = ((i - d / 2 : Nat) : Int) := by
    rw [tdiv2, W_in (n := ((d / 2 : Nat) : Int)) (by omega), W_in (by omega)]; omega
  have a2 : W ((i : Int) - (d : Int)) = ((i - d : Nat) : Int) := by rw [W_in (by omega)]; omega
  have h5 := sh5 n g d i
  rw [a1, boundsI_ok (n := n) (i := ((i - d / 2 : Nat) : Int)) (by omega), boundsI_ok (n := n) (i := (i : Int)) (by omega)] at h5
  simp only [hiW_ok, loW_ok, Bool.and_self, gd_true, Int.toNat_natCast] at h5
  rw [w2_add] at h5
  have h6 := sh6 n (putG g (i - d / 2) (g (i - d / 2) + g i)) d i
  rw [a2, boundsI_ok (n := n) (i := ((i - d : Nat) : Int)) (by omega), boundsI_ok (n := n) (i := (i : Int)) (by omega)] at h6
  simp only [hiW_ok, loW_ok, Bool.and_self, gd_true, Int.toNat_natCast] at h6
  rw [w2_sub] at h6
  have e1 : putG g (i - d / 2) (g (i - d / 2) + g i) (i - d) = g (i - d) := by unfold putG; rw [if_neg (by omega)]
  have e2 : putG g (i - d / 2) (g (i - d / 2) + g i) i = g i := by unfold putG; rw [if_neg (by omega)]
  rw [e1, e2] at h6
  have h4 := sh4 n (redG d g i) d i
  rw [W_in (by omega)] at h4
  rw [shCode]
  have i1 := shIn.2
  have c5 := (end_rule (C := Cr1 Try.prog) okr1 (f := 114) (B := 1) i1.right.left.left.left h5).likes (st_like (g := putG g (i - d / 2) (g (i - d / 2) + g i)) fun q _ => stR_w g _ _ q)
  have c6 := (end_rule (C := Cr1 Try.prog) okr1 (f := 114) (B := 1) i1.right.left.left.right h6).likes (st_like (g := redG d g i) fun q _ => stR_w _ _ _ q)
  exact (end_rule (C := Cr1 Try.prog) okr1 (f := 114) (B := 1) i1.left hA).seq ((CodeSem.blockN (c5.seq c6)).seq (end_rule (C := Cr1 Try.prog) okr1 (f := 114) (B := 1) i1.right.right h4))
theorem shOut (n d : Nat) (i : Int) (h : i < (d : Int)) (g : Nat → Int) : CodeSem Try.prog 1 (shF Try.prog) (shH n g d i) (.exit 0) (shH n g d i) := by
  have hA := shA n g d i
  rw [show decide (i ≥ (d : Int)) = false by simp; omega] at hA
  rw [shCode]
  exact (end_rule (C := Cr1 Try.prog) okr1 (f := 114) (B := 1) shIn.2.left hA).out (by simp)
theorem shLoop (n d : Nat) (hd : 2 ≤ d) (h1 : d ≤ n) (hn : n ≤ 1048576) (g : Nat → Int) : LoopSem Try.prog 1 (shF Try.prog) (shH n g d ((n : Int) - 1)) (.exit 0) (shH n (redN d n g (n - d)) d ((d : Int) - 1)) := by
  have := run_loopC (P := Try.prog) (B := 1) (x := shF Try.prog) (e := .exit 0) (sE := shH n (redN d n g (n - d)) d ((d : Int) - 1)) (by simp) (n - d) (fun r => shH n (redN d n g r) d ((n : Int) - 1 - r)) (fun r hr => by
    have := shRound n d (n - 1 - r) hd (by omega) (by omega) hn (redN d n g r)
    rw [show (((n - 1 - r : Nat) : Nat) : Int) = (n : Int) - 1 - (r : Int) by omega, show (n : Int) - 1 - (r : Int) - 1 = (n : Int) - 1 - ((r + 1 : Nat) : Int) by omega] at this
    exact this) (by
    have := shOut n d ((n : Int) - 1 - ((n - d : Nat) : Int)) (by omega) (redN d n g (n - d))
    rw [show (n : Int) - 1 - ((n - d : Nat) : Int) = (d : Int) - 1 by omega] at this ⊢
    exact this)
  simpa [redN] using this
theorem shSem (n d : Nat) (hd : 2 ≤ d) (h1 : d ≤ n) (hn : n ≤ 1048576) (g : Nat → Int) : MemSem Try.prog 114 [vI ((3 * d : Nat) : Int), SW n] [Wr n g] (.slice (some ⟨0, 0, some 0⟩) d 2) [Wr n (redN d n g (n - d))] := by
  have body0 : InBody ((Cr1 Try.prog).into 114 1) (shB Try.prog) := Or.inl ⟨Try.f114, shB Try.prog, Try.func114, shB_eq, fun _ hx => hx⟩
  have r1 := shP1 n g ((3 * d : Nat) : Int)
  rw [tdiv3, W_in (by omega)] at r1
  have rh := shHead n g (d : Int)
  rw [W_in (by omega)] at rh
  have re := shEnd n (redN d n g (n - d)) d ((d : Int) - 1)
  rw [show leI (d : Int) n = true by unfold leI; simp; omega] at re
  simp only [gd_true, Int.toNat_natCast] at re
  refine body_mem (f := 114) Try.func114 shB_eq (by kernel_rfl) (seg_rule (C := Cr1 Try.prog) okr1 (f := 114) (B := 1) (k := 2) body0 r1 (stmt_rule shHas (for_rule shFor (end_rule (C := Cr1 Try.prog) okr1 (f := 114) (B := 1) shIn.1 rh) (shLoop n d hd h1 hn g)) (end_rule (C := Cr1 Try.prog) okr1 (f := 114) (B := 1) (bodyOf_in Try.func114 shB_eq) re))) (shRet n d _)
def okWs (n : Nat) (row : Nat → List Value) : Bool := (List.range n).all fun i => match row i with
  | [.int .u64 h, .int .u64 l] => u64B h && u64B l
  | _ => false
def gOf (row : Nat → List Value) (i : Nat) : Int := match row i with
  | [.int .u64 h, .int .u64 l] => decW h l
  | _ => 0
theorem okWs_row (n : Nat) (g : Nat → Int) : okWs n (wRow g) = true := List.all_eq_true.2 fun i _ => by simp [wRow, hiW_ok, loW_ok]
theorem gOf_row (g : Nat → Int) (i : Nat) : wid (gOf (wRow g) i) = wid (g i) := by
  show wid (decW (hiW (g i)) (loW (g i))) = _
  rw [dec_hl]
  unfold wid
  omega
theorem hl_dec {h l : Int} (a : u64B h = true) (b : u64B l = true) : hiW (decW h l) = h ∧ loW (decW h l) = l := by
  rw [u64B_iff] at a b
  unfold hiW loW decW
  omega
theorem ws_like {n : Nat} {row : Nat → List Value} (h : okWs n row = true) : rowsLike n row (wRow (gOf row)) := by
  intro i hi
  have := List.all_eq_true.1 h i (List.mem_range.2 hi)
  unfold wRow gOf
  split at this
  · rename_i a b hx
    simp only [hx]
    simp only [Bool.and_eq_true] at this
    obtain ⟨e1, e2⟩ := hl_dec this.1 this.2
    rw [e1, e2]
  · cases this
/-- The contract. -/
def shapedF : List Value → Mem → Option (Ans (Value × Mem))
  | [.int .i64 m, .slice (some ⟨0, 0, some 0⟩) N 2], [.rows true true 2 N2 row] => some (.br (fineB m && (Nat.beq N N2 && (okWs N row && (decide (m ≤ 3 * (N : Int)) && decide (N ≤ 1048576))))) (.out (.slice (some ⟨0, 0, some 0⟩) (m.toNat / 3) 2, [.rows true true 2 N (wRow (redN (m.toNat / 3) N (gOf row) (N - m.toNat / 3)))])) .fail)
  | _, _ => none
theorem fine_cases {m : Int} (h : fineB m = true) : m = 24 ∨ m = 48 ∨ m = 96 ∨ m = 192 := by
  unfold fineB at h
  simpa using h
theorem shapedF_ok {args : List Value} {m : Mem} {ans : Ans (Value × Mem)} {v : Value} {m' : Mem} (h : shapedF args m = some ans) (hr : ans.res = some (v, m')) : MemSem Try.prog 114 args m v m' := by
  unfold shapedF at h
  split at h
  · rename_i m N N2 row
    simp only [Option.some.injEq] at h
    subst h
    rcases Ans.br_some hr with ⟨hc, g⟩ | ⟨_, g⟩ <;> clear hr
    rotate_left
    · simp [Ans.res] at g
    simp only [Bool.and_eq_true, decide_eq_true_eq] at hc
    obtain ⟨c1, c2, c3, c4, c5⟩ := hc
    have e1 := Nat.eq_of_beq_eq_true c2
    subst e1
    simp only [Ans.res, Option.some.injEq, Prod.mk.injEq] at g
    obtain ⟨rfl, rfl⟩ := g
    have hm := fine_cases c1
    have := shSem N (m.toNat / 3) (by omega) (by omega) c5 (gOf row)
    rw [show ((3 * (m.toNat / 3) : Nat) : Int) = m by omega] at this
    exact MemSem.like this ⟨.rows (ws_like c3), trivial⟩
  · cases h
def Cr2 (P : Program) : Cx := (Cr1 P).addF 114 shapedF
theorem okr2 : CxOk (Cr2 Try.prog) := Cx.addF_ok okr1 fun _ _ _ _ _ h hr => shapedF_ok h hr
end Go.Proofs.Ytjhijkdicmbbiaa


namespace Go.Proofs.Ytjhijkdicmbbiaa
open Go Vx Go.RowKit
def tdB (P : Program) : Code := bodyOf P 101
theorem tdB_eq : Try.f101.body = some (tdB Try.prog) := by kernel_rfl
def pt (b : Nat) : Value := .pointer (some ⟨b, 0, none⟩)
def SI (b n : Nat) : Value := .slice (some ⟨b, 0, some 0⟩) n 1
def tdM (n d : Nat) (m : Int) (g : Nat → Int) (c : Nat → List Value) : Mem := [Wr n g, .cells true 0 [.int .i64 0, .slice none 0 0], .cells true 0 [.int .i64 m, SI 3 d], .rows true true 1 d c]
def tdS (n d : Nat) (m : Int) (g : Nat → Int) : St := stOf 42 [(0, vI m), (1, SW n), (4, pt 1), (5, vI 0), (6, pt 2)] (tdM n d m g (iRow fun _ => 0))
def tdX (n d : Nat) (m : Int) (g : Nat → Int) (c : Nat → List Value) (i : Int) : St := stOf 42 [(4, pt 1), (5, vI 0), (6, pt 2), (17, SW d), (18, vI d), (19, vI i)] (tdM n d m g c)
def tdH (n d : Nat) (m : Int) (g c : Nat → Int) (i : Int) : St := tdX n d m g (iRow c) i
def tdE (n d : Nat) (m : Int) (g c : Nat → Int) (e : Int) : St := stOf 42 [(4, pt 1), (5, vI e), (6, pt 2)] (tdM n d m g (iRow c))
def mkT (d : Int) : Bool := decide (0 ≤ d) && (decide (d ≤ d) && (decide (d * ((8 : Nat) : Int) ≤ 2 ^ 47) && decide (d ≤ 2 ^ 62)))
theorem tdP1 (n : Nat) (g : Nat → Int) (m : Int) : segR ((Cr2 Try.prog).into 101 1) 60 2 (tdB Try.prog) [0, 1, 4, 5, 6] [.fix 0, .slot 4, .slot 6, .cell 3 1] (enter Try.f101 [vI m, SW n] [Wr n g]) = gd (mkT (W (m.tdiv 3))) (some (tdS n (W (m.tdiv 3)).toNat m g)) := by kernel_rfl
def shT (n : Nat) (m : Int) (row : Nat → List Value) : Bool := fineB m && (Nat.beq n n && (okWs n row && (decide (m ≤ 3 * (n : Int)) && decide (n ≤ 1048576))))
def shG (n : Nat) (m : Int) (row : Nat → List Value) : Nat → Int := redN (m.toNat / 3) n (gOf row) (n - m.toNat / 3)
theorem tdHead (n d : Nat) (g : Nat → Int) (m : Int) : roundR ((Cr2 Try.prog).into 101 1) 60 (forHead (stmt 2 (tdB Try.prog))) [4, 5, 6, 17, 18, 19] [4, 5, 6, 17, 18, 19] [.fix 0, .slot 4, .slot 6, .cell 2 1] [.fix 0, .slot 4, .slot 6, .cell 2 1] (tdS n d m g) = gd (shT n m (wRow g)) (some (.normal, stOf 42 [(4, pt 1), (5, vI 0), (6, pt 2), (17, SW (m.toNat / 3)), (18, vI (m.toNat / 3 : Nat)), (19, vI 0)] (tdM n d m (shG n m (wRow g)) (iRow fun _ => 0)))) := by kernel_rfl
def nar (v : Int) : Int := W (loW v)
def fitW (v : Int) : Bool := (hiW (nar v) == hiW v && (loW (nar v) == loW v && true))
theorem tdR (n d : Nat) (g c : Nat → Int) (m i : Int) : roundR ((Cr2 Try.prog).into 101 1) 60 (forBody (stmt 2 (tdB Try.prog))) [4, 5, 6, 17, 18, 19] [4, 5, 6] [.fix 0, .slot 4, .slot 6, .cell 2 1] [.fix 0, .slot 4, .slot 6, .cell 2 1] (tdH n d m g c i) =
  (match decide (i < (d : Int)) with
  | true => gd (boundsI i d) (gd (i64B (nar (g i.toNat))) (match !fitW (g i.toNat) with
    | true => some (.ret, tdE n d m g c 4)
    | false => match !inRg (nar (g i.toNat)) with
      | true => some (.ret, tdE n d m g c 4)
      | false => gd (boundsI i d) (some (.normal, tdX n d m g (stR (iRow c) i.toNat [.int .i64 (nar (g i.toNat))]) (W (i + 1))))))
  | false => some (.exit 0, tdE n d m g c 0)) := by kernel_rfl
def tdY (n d : Nat) (m : Int) (g c : Nat → Int) : St := stOf 42 [(4, pt 1), (5, vI 0)] [Wr n g, .cells true 0 [.int .i64 m, SI 2 d], .rows true true 1 d (iRow c)]
theorem tdEnd (n d : Nat) (g c : Nat → Int) (m : Int) : roundR ((Cr2 Try.prog).into 101 1) 60 (seqDrop 3 (tdB Try.prog)) [4, 5] [4, 5] [.fix 0, .slot 4, .cell 1 1] [.fix 0, .slot 4, .cell 1 1] (tdE n d m g c 0) = some (.ret, tdY n d m g c) := by kernel_rfl
def rgV (m : Int) (s : Value) (e : Int) : Value := .tuple #[.agg #[vI m, s], vI e]
theorem tdRet (n d : Nat) (g c : Nat → Int) (m : Int) : (retA Try.prog Try.f101 (.ret, tdY n d m g c)).res = some (rgV m (SI 2 d) 0, [Wr n g, .cells true 0 [.int .i64 m, SI 2 d], .rows true true 1 d (iRow c)]) := by kernel_rfl
theorem tdTidy (n d : Nat) (g c : Nat → Int) (m : Int) : (tidyA 1 [.fix 0, .cell 1 1] (rgV m (SI 2 d) 0, [Wr n g, .cells true 0 [.int .i64 m, SI 2 d], .rows true true 1 d (iRow c)])).res = some (rgV m (SI 1 d) 0, [Wr n g, .rows true true 1 d (iRow c)]) := by kernel_rfl
theorem tdRetE (n d : Nat) (g c : Nat → Int) (m : Int) : (retA Try.prog Try.f101 (.ret, tdE n d m g c 4)).res = some (rgV 0 (.slice none 0 0) 4, tdM n d m g (iRow c)) := by kernel_rfl
theorem tdTidyE (n d : Nat) (g c : Nat → Int) (m : Int) : (tidyA 1 [.fix 0] (rgV 0 (.slice none 0 0) 4, tdM n d m g (iRow c))).res = some (rgV 0 (.slice none 0 0) 4, [Wr n g]) := by kernel_rfl
theorem tdFor : isFor 0 (stmt 2 (tdB Try.prog)) = true := by kernel_rfl
theorem tdHas : hasStmt 2 (tdB Try.prog) = true := by kernel_rfl
theorem tdIn : InBody ((Cr2 Try.prog).into 101 1) (forHead (stmt 2 (tdB Try.prog))) ∧ InBody ((Cr2 Try.prog).into 101 1) (forBody (stmt 2 (tdB Try.prog))) := for_in (C := Cr2 Try.prog) (f := 101) (B := 1) (id := 0) (k := 2) (fn := Try.f101) (b := tdB Try.prog) Try.func101 tdB_eq tdFor
end Go.Proofs.Ytjhijkdicmbbiaa


namespace Go.Proofs.Ytjhijkdicmbbiaa
open Go Vx Go.RowKit
def fits (v : Int) : Bool := fitW v && inRg (nar v)
def allF (d : Nat) (g : Nat → Int) : Bool := (List.range d).all fun i => fits (g i)
theorem i64B_W (n : Int) : i64B (W n) = true := i64B_iff.2 (by rw [W_eq]; omega)
def fill (g : Nat → Int) (i : Nat) (q : Nat) : Int := if q < i then nar (g q) else 0
theorem fill_step (g : Nat → Int) (i q : Nat) : putG (fill g i) i (nar (g i)) q = fill g (i + 1) q := by
  unfold putG fill
  by_cases h : q = i
  · subst h; rw [if_pos rfl, if_pos (by omega)]
  · rw [if_neg h]
    by_cases k : q < i
    · rw [if_pos k, if_pos (by omega)]
    · rw [if_neg k, if_neg (by omega)]
theorem tdNext (n d : Nat) (m : Int) (g : Nat → Int) (hd : d ≤ 1048576) (i : Nat) (hi : i < d) (hf : fits (g i) = true) : ∃ s, roundR ((Cr2 Try.prog).into 101 1) 60 (forBody (stmt 2 (tdB Try.prog))) [4, 5, 6, 17, 18, 19] [4, 5, 6] [.fix 0, .slot 4, .slot 6, .cell 2 1] [.fix 0, .slot 4, .slot 6, .cell 2 1] (tdH n d m g (fill g i) (i : Int)) = some (.normal, s) ∧ StLike s (tdH n d m g (fill g (i + 1)) ((i + 1 : Nat) : Int)) := by
  have h := tdR n d g (fill g i) m i
  unfold fits at hf
  rw [Bool.and_eq_true] at hf
  rw [show decide ((i : Int) < (d : Int)) = true by simp; omega, boundsI_ok (n := d) (i := (i : Int)) (by omega), show i64B (nar (g (i : Int).toNat)) = true from i64B_W _] at h
  simp only [gd_true, Int.toNat_natCast, hf.1, hf.2, Bool.not_true] at h
  refine ⟨_, h, ?_⟩
  rw [show W ((i : Int) + 1) = ((i + 1 : Nat) : Int) by rw [W_in (by omega)]; simp]
  refine ⟨rfl, .refl _, .refl _, .refl _, .rows fun q _ => ?_, trivial⟩
  rw [stR_i]
  simp only [iRow, fill_step]
theorem tdLoopT (n d : Nat) (m : Int) (g : Nat → Int) (hd : d ≤ 1048576) (hf : ∀ i, i < d → fits (g i) = true) : LoopSem Try.prog 1 (forBody (stmt 2 (tdB Try.prog))) (tdH n d m g (fill g 0) ((0 : Nat) : Int)) (.exit 0) (tdE n d m g (fill g d) 0) := by
  refine run_loop (C := Cr2 Try.prog) okr2 (f := 101) (B := 1) (m := 60) tdIn.2 (by simp) d (fun i => tdH n d m g (fill g i) (i : Int)) (fun i hi => tdNext n d m g hd i hi (hf i hi)) ?_
  have h := tdR n d g (fill g d) m d
  rw [show decide ((d : Int) < (d : Int)) = false by simp] at h
  exact h
theorem tdLoopF (n d : Nat) (m : Int) (g : Nat → Int) (hd : d ≤ 1048576) (k : Nat) (hk : k < d) (hf : ∀ i, i < k → fits (g i) = true) (hb : fits (g k) = false) : LoopSem Try.prog 1 (forBody (stmt 2 (tdB Try.prog))) (tdH n d m g (fill g 0) ((0 : Nat) : Int)) .ret (tdE n d m g (fill g k) 4) := by
  refine run_loop (C := Cr2 Try.prog) okr2 (f := 101) (B := 1) (m := 60) tdIn.2 (by simp) k (fun i => tdH n d m g (fill g i) (i : Int)) (fun i hi => tdNext n d m g hd i (by omega) (hf i hi)) ?_
  have h := tdR n d g (fill g k) m k
  rw [show decide ((k : Int) < (d : Int)) = true by simp; omega, boundsI_ok (n := d) (i := (k : Int)) (by omega), show i64B (nar (g (k : Int).toNat)) = true from i64B_W _] at h
  simp only [gd_true, Int.toNat_natCast] at h
  unfold fits at hb
  cases h1 : fitW (g k) with
  | false => rw [h1] at h; exact h
  | true =>
    rw [h1, Bool.true_and] at hb
    rw [h1, hb] at h
    exact h
theorem shT_ok {n d : Nat} {m : Int} (h : fineB m = true) (hm : m = ((3 * d : Nat) : Int)) (h1 : d ≤ n) (h2 : n ≤ 1048576) (g : Nat → Int) : shT n m (wRow g) = true := by
  unfold shT
  rw [h, Nat.beq_refl, okWs_row, decide_eq_true (by omega), decide_eq_true h2]
  rfl
/-- What the powers come to. -/
def cofG (n d : Nat) (g : Nat → Int) : Nat → Int := redN d n (gOf (wRow g)) (n - d)
theorem tdHd (n d : Nat) (m : Int) (g : Nat → Int) (h : fineB m = true) (hm : m = ((3 * d : Nat) : Int)) (h1 : d ≤ n) (h2 : n ≤ 1048576) : CodeSem Try.prog 1 (forHead (stmt 2 (tdB Try.prog))) (tdS n d m g) .normal (tdH n d m (cofG n d g) (fill (cofG n d g) 0) ((0 : Nat) : Int)) := by
  have rh := tdHead n d g m
  rw [shT_ok h hm h1 h2] at rh
  have e : m.toNat / 3 = d := by omega
  simp only [gd_true, shG, e] at rh
  have := end_rule (C := Cr2 Try.prog) okr2 (f := 101) (B := 1) tdIn.1 rh
  exact this
theorem tdS1 (n d : Nat) (m : Int) (g : Nat → Int) (h : fineB m = true) (hm : m = ((3 * d : Nat) : Int)) {e : Exit} {s : St} (hc : CodeSem Try.prog 1 (seqDrop 2 (tdB Try.prog)) (tdS n d m g) e s) : CodeSem Try.prog 1 (tdB Try.prog) (enter Try.f101 [vI m, SW n] [Wr n g]) e s := by
  have body0 : InBody ((Cr2 Try.prog).into 101 1) (tdB Try.prog) := Or.inl ⟨Try.f101, tdB Try.prog, Try.func101, tdB_eq, fun _ hx => hx⟩
  have hf := fine_cases h
  have r1 := tdP1 n g m
  have e1 : W (m.tdiv 3) = (d : Int) := by rw [hm, tdiv3, W_in (by omega)]
  rw [e1, show mkT (d : Int) = true by unfold mkT; simp; omega] at r1
  simp only [gd_true, Int.toNat_natCast] at r1
  exact seg_rule (C := Cr2 Try.prog) okr2 (f := 101) (B := 1) (k := 2) body0 r1 hc
theorem toldT (n d : Nat) (m : Int) (g : Nat → Int) (h : fineB m = true) (hm : m = ((3 * d : Nat) : Int)) (h1 : d ≤ n) (h2 : n ≤ 1048576) (hf : ∀ i, i < d → fits (cofG n d g i) = true) : MemSem Try.prog 101 [vI m, SW n] [Wr n g] (rgV m (SI 1 d) 0) [Wr n (cofG n d g), .rows true true 1 d (iRow fun i => nar (cofG n d g i))] := by
  have c1 := stmt_rule tdHas (for_rule tdFor (tdHd n d m g h hm h1 h2) (tdLoopT n d m (cofG n d g) (by omega) hf)) (end_rule (C := Cr2 Try.prog) okr2 (f := 101) (B := 1) (bodyOf_in Try.func101 tdB_eq) (tdEnd n d (cofG n d g) (fill (cofG n d g) d) m))
  have s1 := body_mem (m := [Wr n g]) (args := [vI m, SW n]) (f := 101) Try.func101 tdB_eq (by kernel_rfl) (tdS1 n d m g h hm c1) (tdRet n d (cofG n d g) (fill (cofG n d g) d) m)
  have s2 := s1.tidy (tdTidy n d (cofG n d g) (fill (cofG n d g) d) m)
  refine s2.likes ⟨.refl _, .rows fun i hi => ?_, trivial⟩
  simp only [iRow, fill, if_pos hi]
theorem toldE (n d : Nat) (m : Int) (g : Nat → Int) (h : fineB m = true) (hm : m = ((3 * d : Nat) : Int)) (h1 : d ≤ n) (h2 : n ≤ 1048576) (k : Nat) (hk : k < d) (hf : ∀ i, i < k → fits (cofG n d g i) = true) (hb : fits (cofG n d g k) = false) : MemSem Try.prog 101 [vI m, SW n] [Wr n g] (rgV 0 (.slice none 0 0) 4) [Wr n (cofG n d g)] := by
  have c1 := stmt_out tdHas (for_ret tdFor (tdHd n d m g h hm h1 h2) (tdLoopF n d m (cofG n d g) (by omega) k hk hf hb)) (by simp)
  have s1 := body_mem (m := [Wr n g]) (args := [vI m, SW n]) (f := 101) Try.func101 tdB_eq (by kernel_rfl) (tdS1 n d m g h hm c1) (tdRetE n d (cofG n d g) (fill (cofG n d g) k) m)
  exact s1.tidy (tdTidyE n d (cofG n d g) (fill (cofG n d g) k) m)
theorem allF_none {d : Nat} {g : Nat → Int} (h : allF d g = false) : ∃ k, k < d ∧ (∀ i, i < k → fits (g i) = true) ∧ fits (g k) = false := by
  cases hq : fst? (fun i => !fits (g i)) d 0 with
  | none =>
    have := fst?_none hq
    have : allF d g = true := List.all_eq_true.2 fun i hi => by
      have := this i (by omega) (by simpa using hi)
      simpa using this
    rw [this] at h; cases h
  | some k =>
    obtain ⟨_, a, b, c⟩ := fst?_some hq
    exact ⟨k, by omega, fun i hi => by simpa using c i (by omega) hi, by simpa using b⟩
/-- The contract. -/
def toldF : List Value → Mem → Option (Ans (Value × Mem))
  | [.int .i64 m, .slice (some ⟨0, 0, some 0⟩) N 2], [.rows true true 2 N2 row] => some (.br (fineB m && (Nat.beq N N2 && (okWs N row && (decide (m ≤ 3 * (N : Int)) && decide (N ≤ 1048576))))) (.br (allF (m.toNat / 3) (cofG N (m.toNat / 3) (gOf row)))
    (.out (rgV m (SI 1 (m.toNat / 3)) 0, [.rows true true 2 N (wRow (cofG N (m.toNat / 3) (gOf row))), .rows true true 1 (m.toNat / 3) (iRow fun i => nar (cofG N (m.toNat / 3) (gOf row) i))]))
    (.out (rgV 0 (.slice none 0 0) 4, [.rows true true 2 N (wRow (cofG N (m.toNat / 3) (gOf row)))]))) .fail)
  | _, _ => none
theorem toldF_ok {args : List Value} {m : Mem} {ans : Ans (Value × Mem)} {v : Value} {m' : Mem} (h : toldF args m = some ans) (hr : ans.res = some (v, m')) : MemSem Try.prog 101 args m v m' := by
  unfold toldF at h
  split at h
  · rename_i m N N2 row
    simp only [Option.some.injEq] at h
    subst h
    rcases Ans.br_some hr with ⟨hc, g⟩ | ⟨_, g⟩ <;> clear hr
    rotate_left
    · simp [Ans.res] at g
    simp only [Bool.and_eq_true, decide_eq_true_eq] at hc
    obtain ⟨c1, c2, c3, c4, c5⟩ := hc
    have e1 := Nat.eq_of_beq_eq_true c2
    subst e1
    have hm := fine_cases c1
    have hm3 : m = ((3 * (m.toNat / 3) : Nat) : Int) := by omega
    have hl : LikeL [.rows true true 2 N row] [Wr N (gOf row)] := ⟨.rows (ws_like c3), trivial⟩
    rcases Ans.br_some g with ⟨hf, g2⟩ | ⟨hf, g2⟩ <;> clear g
    · simp only [Ans.res, Option.some.injEq, Prod.mk.injEq] at g2
      obtain ⟨rfl, rfl⟩ := g2
      exact (toldT N (m.toNat / 3) m (gOf row) c1 hm3 (by omega) c5 fun i hi => List.all_eq_true.1 hf i (List.mem_range.2 hi)).like hl
    · simp only [Ans.res, Option.some.injEq, Prod.mk.injEq] at g2
      obtain ⟨rfl, rfl⟩ := g2
      obtain ⟨k, a, b, c⟩ := allF_none hf
      exact (toldE N (m.toNat / 3) m (gOf row) c1 hm3 (by omega) c5 k a b c).like hl
  · cases h
def Cr3 (P : Program) : Cx := (Cr2 P).addF 101 toldF
theorem okr3 : CxOk (Cr3 Try.prog) := Cx.addF_ok okr2 fun _ _ _ _ _ h hr => toldF_ok h hr
end Go.Proofs.Ytjhijkdicmbbiaa


namespace Go.Proofs.Ytjhijkdicmbbiaa
open Go Vx Go.RowKit
theorem e108 (a b : Int) : exFun ((Cr3 Try.prog).at 108) 60 Try.f108 [vI a, vI b] = gn (b == 0) (match decide (a.tmod b < 0) with
    | true => some (vI (W (a.tmod b + b)))
    | false => some (vI (a.tmod b))) := by kernel_rfl
def F108 : List Value → Option (Bool × Value)
  | [.int .i64 a, .int .i64 b] => some (fineB b, vI (a % b))
  | _ => none
theorem tmod_res {a b : Int} (hb : fineB b = true) : (match decide (a.tmod b < 0) with
    | true => some (vI (W (a.tmod b + b)))
    | false => some (vI (a.tmod b)) : Option Value) = some (vI (a % b)) := by
  have h0 := fine_cases hb
  have h1 : a.tmod b = a % b ∨ (a.tmod b = a % b - b ∧ a % b ≠ 0) := by
    rw [Int.tmod_eq_emod]
    split
    · exact Or.inl (by omega)
    · refine Or.inr ⟨by rcases h0 with h | h | h | h <;> subst h <;> rfl, ?_⟩
      rename_i h
      intro hz
      exact h (Or.inr (Int.dvd_of_emod_eq_zero hz))
  have h2 : 0 ≤ a % b ∧ a % b < b := ⟨Int.emod_nonneg _ (by omega), Int.emod_lt_of_pos _ (by omega)⟩
  generalize a % b = x at *
  rcases h1 with h | ⟨h, _⟩
  · rw [h, show decide (x < 0) = false by simp; omega]
  · rw [h, show decide (x - b < 0) = true by simp; omega]
    simp only
    rw [W_in (by omega)]
    congr 2
    omega
def Cr108 (P : Program) : Cx := (Cr3 P).addR 108 F108
theorem okr108 : CxOk (Cr108 Try.prog) := Cx.addRa_ok okr3 (n := 60) Try.func108 (by kernel_rfl) fun args v h => by
  unfold F108 at h
  split at h
  · rename_i a b
    simp only [Option.some.injEq, Prod.mk.injEq] at h
    obtain ⟨h0, rfl⟩ := h
    refine (e108 a b).trans ?_
    have hf := fine_cases h0
    rw [show (b == 0) = false by simp; omega]
    exact tmod_res h0
  · cases h
def mkW (d : Int) : Bool := decide (0 ≤ d) && (decide (d ≤ d) && (decide (d * ((16 : Nat) : Int) ≤ 2 ^ 47) && decide (d ≤ 2 ^ 62)))
def zR : Nat → List Value := fun _ => [.int .u64 0, .int .u64 0]
def okR (m : Int) (h : Nat → Int) : Option (Value × Mem) := some (rgV m (SI 0 (m.toNat / 3)) 0, [.rows true true 1 (m.toNat / 3) (iRow fun i => nar (h i))])
def erR (e : Int) : Option (Value × Mem) := some (rgV 0 (.slice none 0 0) e, [.no])
/-- What a list of powers comes to. -/
def toR (m : Int) (n : Nat) (row : Nat → List Value) : Option (Value × Mem) := gd (shT n m row) (match allF (m.toNat / 3) (cofG n (m.toNat / 3) (gOf row)) with
  | true => okR m (cofG n (m.toNat / 3) (gOf row))
  | false => erR 4)
theorem rtT (j m : Int) : exT ((Cr108 Try.prog).at 32) 60 Try.f32 [vI j, vI m] [] [.cell 0 1] = (match !fineB m with
  | true => erR 1
  | false => gd (mkW m) (gd (fineB m) (gd (boundsI (j % m) m.toNat) (toR m m.toNat (stR zR (j % m).toNat (w2 1)))))) := by kernel_rfl
theorem itT (n m : Int) : exT ((Cr108 Try.prog).at 34) 60 Try.f34 [vI n, vI m] [] [.cell 0 1] = (match !fineB m with
  | true => erR 1
  | false => gd (mkW (W (m.tdiv 3))) (gd (i64B n) (gd (boundsI 0 (W (m.tdiv 3)).toNat) (toR m (W (m.tdiv 3)).toNat (stR zR 0 (w2 n)))))) := by kernel_rfl
end Go.Proofs.Ytjhijkdicmbbiaa


namespace Go.Proofs.Ytjhijkdicmbbiaa.Vx
open Go
/-- Nothing from n on. -/
def cut (n : Nat) (g : Nat → Int) (i : Nat) : Int := if i < n then g i else 0
def cofZ (e : Nat) (z : Nat → Int) (q : Nat) : Int := if q < e then z q - z (q + 2 * e) - z (q + 3 * e) + z (q + 5 * e) else z q + z (q + e) - z (q + 3 * e) - z (q + 4 * e)
def cofE (e n : Nat) (g : Nat → Int) : Nat → Int := cofZ e (cut n g)
theorem cut_ne {n : Nat} {g h : Nat → Int} {i : Nat} (hgh : g i = h i) : cut n g i = cut n h i := by unfold cut; rw [hgh]
/-- One step of it: the highest power is brought down and left out. -/
theorem cof_step {e i q : Nat} (g : Nat → Int) (he : 1 ≤ e) (h1 : 2 * e ≤ i) (h2 : i < 6 * e) (hq : q < 2 * e) : cofZ e (cut i (redG (2 * e) g i)) q = cofZ e (cut (i + 1) g) q := by
  have hd : 2 * e / 2 = e := by omega
  have val : ∀ p, cut i (redG (2 * e) g i) p = if p = i then 0 else if p = i - e then g (i - e) + g i else if p = i - 2 * e then g (i - 2 * e) - g i else cut (i + 1) g p := by
    intro p
    unfold cut redG putG
    rw [hd]
    by_cases a : p = i
    · subst a; rw [if_neg (by omega), if_pos rfl]
    · rw [if_neg a]
      by_cases b : p = i - e
      · rw [if_pos (show p < i by omega), if_neg (show ¬ p = i - 2 * e by omega), if_pos b, if_pos b]
      · by_cases c : p = i - 2 * e
        · rw [if_pos (show p < i by omega), if_pos c, if_neg b, if_pos c]
        · by_cases l : p < i
          · rw [if_pos l, if_neg c, if_neg b, if_neg b, if_neg c, if_pos (show p < i + 1 by omega)]
          · rw [if_neg l, if_neg b, if_neg c, if_neg (show ¬ p < i + 1 by omega)]
  have other : ∀ p, p ≠ i → p ≠ i - e → p ≠ i - 2 * e → cut i (redG (2 * e) g i) p = cut (i + 1) g p := fun p a b c => by rw [val, if_neg a, if_neg b, if_neg c]
  have v0 : cut i (redG (2 * e) g i) i = 0 := by rw [val, if_pos rfl]
  have v1 : cut i (redG (2 * e) g i) (i - e) = g (i - e) + g i := by rw [val, if_neg (by omega), if_pos rfl]
  have v2 : cut i (redG (2 * e) g i) (i - 2 * e) = g (i - 2 * e) - g i := by rw [val, if_neg (by omega), if_neg (by omega), if_pos rfl]
  have w0 : cut (i + 1) g i = g i := by unfold cut; rw [if_pos (by omega)]
  have w1 : cut (i + 1) g (i - e) = g (i - e) := by unfold cut; rw [if_pos (by omega)]
  have w2 : cut (i + 1) g (i - 2 * e) = g (i - 2 * e) := by unfold cut; rw [if_pos (by omega)]
  generalize cut i (redG (2 * e) g i) = x at *
  generalize cut (i + 1) g = y at *
  unfold cofZ
  by_cases hqe : q < e
  · rw [if_pos hqe, if_pos hqe]
    by_cases k2 : i = q + 2 * e
    · rw [show i - e = q + e by omega] at v1 w1 other
      rw [show i - 2 * e = q by omega] at v2 w2 other
      rw [k2] at v0 w0
      have o3 := other (q + 3 * e) (by omega) (by omega) (by omega)
      have o5 := other (q + 5 * e) (by omega) (by omega) (by omega)
      rw [k2] at v1 v2
      omega
    · by_cases k3 : i = q + 3 * e
      · rw [show i - e = q + 2 * e by omega] at v1 w1 other
        rw [show i - 2 * e = q + e by omega] at v2 w2 other
        rw [k3] at v0 w0
        have o0 := other q (by omega) (by omega) (by omega)
        have o5 := other (q + 5 * e) (by omega) (by omega) (by omega)
        rw [k3] at v1 v2
        omega
      · by_cases k4 : i = q + 4 * e
        · rw [show i - e = q + 3 * e by omega] at v1 w1 other
          rw [show i - 2 * e = q + 2 * e by omega] at v2 w2 other
          rw [k4] at v0 w0
          have o0 := other q (by omega) (by omega) (by omega)
          have o5 := other (q + 5 * e) (by omega) (by omega) (by omega)
          rw [k4] at v1 v2
          omega
        · by_cases k5 : i = q + 5 * e
          · rw [show i - e = q + 4 * e by omega] at v1 w1 other
            rw [show i - 2 * e = q + 3 * e by omega] at v2 w2 other
            rw [k5] at v0 w0
            have o0 := other q (by omega) (by omega) (by omega)
            have o2 := other (q + 2 * e) (by omega) (by omega) (by omega)
            rw [k5] at v1 v2
            omega
          · rw [other q (by omega) (by omega) (by omega), other (q + 2 * e) (by omega) (by omega) (by omega), other (q + 3 * e) (by omega) (by omega) (by omega), other (q + 5 * e) (by omega) (by omega) (by omega)]
  · rw [if_neg hqe, if_neg hqe]
    obtain ⟨p, rfl⟩ : ∃ p, q = p + e := ⟨q - e, by omega⟩
    by_cases k2 : i = p + 2 * e
    · rw [show i - e = p + e by omega] at v1 w1 other
      rw [show i - 2 * e = p by omega] at v2 w2 other
      rw [k2] at v0 w0
      rw [show p + e + e = p + 2 * e by omega, show p + e + 3 * e = p + 4 * e by omega, show p + e + 4 * e = p + 5 * e by omega]
      have o4 := other (p + 4 * e) (by omega) (by omega) (by omega)
      have o5 := other (p + 5 * e) (by omega) (by omega) (by omega)
      rw [k2] at v1 v2
      omega
    · rw [show p + e + e = p + 2 * e by omega, show p + e + 3 * e = p + 4 * e by omega, show p + e + 4 * e = p + 5 * e by omega]
      by_cases k3 : i = p + 3 * e
      · rw [show i - e = p + 2 * e by omega] at v1 w1 other
        rw [show i - 2 * e = p + e by omega] at v2 w2 other
        have o4 := other (p + 4 * e) (by omega) (by omega) (by omega)
        have o5 := other (p + 5 * e) (by omega) (by omega) (by omega)
        omega
      · by_cases k4 : i = p + 4 * e
        · rw [show i - e = p + 3 * e by omega] at v1 w1 other
          rw [show i - 2 * e = p + 2 * e by omega] at v2 w2 other
          rw [k4] at v0 w0
          have o1 := other (p + e) (by omega) (by omega) (by omega)
          have o5 := other (p + 5 * e) (by omega) (by omega) (by omega)
          rw [k4] at v2
          omega
        · by_cases k5 : i = p + 5 * e
          · rw [show i - e = p + 4 * e by omega] at v1 w1 other
            rw [show i - 2 * e = p + 3 * e by omega] at v2 w2 other
            rw [k5] at v0 w0
            have o1 := other (p + e) (by omega) (by omega) (by omega)
            have o2 := other (p + 2 * e) (by omega) (by omega) (by omega)
            rw [k5] at v1
            omega
          · rw [other (p + e) (by omega) (by omega) (by omega), other (p + 2 * e) (by omega) (by omega) (by omega), other (p + 4 * e) (by omega) (by omega) (by omega), other (p + 5 * e) (by omega) (by omega) (by omega)]
theorem red_cof {e n : Nat} (g : Nat → Int) (he : 1 ≤ e) (h1 : 2 * e ≤ n) (h2 : n ≤ 6 * e) : ∀ r, r ≤ n - 2 * e → ∀ q, q < 2 * e → cofZ e (cut (n - r) (redN (2 * e) n g r)) q = cofZ e (cut n g) q
  | 0, _, q, _ => rfl
  | r + 1, hr, q, hq => by
    rw [← red_cof g he h1 h2 r (by omega) q hq]
    show cofZ e (cut (n - (r + 1)) (redG (2 * e) (redN (2 * e) n g r) (n - 1 - r))) q = _
    rw [show n - (r + 1) = n - 1 - r by omega, cof_step _ he (by omega) (by omega) hq, show n - 1 - r + 1 = n - r by omega]
theorem cof_low {e : Nat} (g : Nat → Int) {q : Nat} (hq : q < 2 * e) : cofZ e (cut (2 * e) g) q = g q := by
  unfold cofZ cut
  by_cases h : q < e
  · rw [if_pos h, if_pos hq, if_neg (by omega), if_neg (by omega), if_neg (by omega)]; omega
  · rw [if_neg h, if_pos hq, if_neg (by omega), if_neg (by omega), if_neg (by omega)]; omega
theorem redN_cof {e n : Nat} (g : Nat → Int) (he : 1 ≤ e) (h1 : 2 * e ≤ n) (h2 : n ≤ 6 * e) {q : Nat} (hq : q < 2 * e) : redN (2 * e) n g (n - 2 * e) q = cofE e n g q := by
  have := red_cof g he h1 h2 (n - 2 * e) (Nat.le_refl _) q hq
  rw [show n - (n - 2 * e) = 2 * e by omega, cof_low _ hq] at this
  exact this
/-- Numbers of two words hang on what is left by 2^128 alone. -/
theorem wid_sub {a b : Int} (h : ∃ k, a = b + k * 340282366920938463463374607431768211456) : wid a = wid b := by
  obtain ⟨k, rfl⟩ := h
  unfold wid; omega
theorem wid_ex {a b : Int} (h : wid a = wid b) : ∃ k, a = b + k * 340282366920938463463374607431768211456 := ⟨(a - b) / 340282366920938463463374607431768211456, by unfold wid at h; omega⟩
theorem wid_cof {e n : Nat} {g h : Nat → Int} (hgh : ∀ i, i < n → wid (g i) = wid (h i)) (q : Nat) : wid (cofE e n g q) = wid (cofE e n h q) := by
  have hc : ∀ i, wid (cut n g i) = wid (cut n h i) := fun i => by
    unfold cut
    by_cases hi : i < n
    · rw [if_pos hi, if_pos hi]; exact hgh i hi
    · rw [if_neg hi, if_neg hi]
  unfold cofE cofZ
  generalize cut n g = x at *
  generalize cut n h = y at *
  by_cases hq : q < e
  · rw [if_pos hq, if_pos hq]
    have a := hc q
    have b := hc (q + 2 * e)
    have c := hc (q + 3 * e)
    have d := hc (q + 5 * e)
    unfold wid at *
    omega
  · rw [if_neg hq, if_neg hq]
    have a := hc q
    have b := hc (q + e)
    have c := hc (q + 3 * e)
    have d := hc (q + 4 * e)
    unfold wid at *
    omega
end Go.Proofs.Ytjhijkdicmbbiaa.Vx


namespace Go.Proofs.Ytjhijkdicmbbiaa
open Go Vx Go.RowKit
theorem nar_wid {v w : Int} (h : wid v = wid w) : nar v = nar w ∧ fits v = fits w := by
  obtain ⟨a, b⟩ := wV_congr h
  have e : nar v = nar w := by unfold nar; rw [b]
  unfold fits fitW
  rw [e, a, b]
  exact ⟨rfl, rfl⟩
theorem inRg_iff {n : Int} : inRg n = true ↔ -4503599627370496 ≤ n ∧ n ≤ 4503599627370496 := by simp [inRg]
def b127 (v : Int) : Prop := -170141183460469231731687303715884105728 ≤ v ∧ v < 170141183460469231731687303715884105728
theorem fits_in {v : Int} (hv : b127 v) : fits v = inRg v ∧ (inRg v = true → nar v = v) := by
  unfold b127 at hv
  have hn : nar v = W v := by
    unfold nar loW
    rw [W_eq, W_eq]; omega
  refine ⟨?_, fun h => ?_⟩
  · cases hr : inRg v with
    | true =>
      have := inRg_iff.1 hr
      unfold fits fitW
      rw [hn, W_in (by omega)]
      simp [hr]
    | false =>
      unfold fits
      rw [hn]
      cases hf : fitW v with
      | false => rfl
      | true =>
        unfold fitW at hf
        rw [hn] at hf
        simp only [Bool.and_eq_true, beq_iff_eq, and_true] at hf
        have h1 := dec_hl v
        have h2 := dec_hl (W v)
        rw [← hf.1, ← hf.2, h2] at h1
        have h3 : -9223372036854775808 ≤ W v ∧ W v ≤ 9223372036854775807 := i64B_iff.1 (i64B_W v)
        have h4 : W v = v := by omega
        rw [h4, hr]; rfl
  · have := inRg_iff.1 h
    rw [hn, W_in (by omega)]
def allR (d : Nat) (c : Nat → Int) : Bool := (List.range d).all fun i => inRg (c i)
theorem cofG_wid {e n : Nat} {row : Nat → List Value} {g : Nat → Int} (he : 1 ≤ e) (h1 : 2 * e ≤ n) (h2 : n ≤ 6 * e) (hr : rowsLike n row (wRow g)) {q : Nat} (hq : q < 2 * e) : wid (cofG n (2 * e) (gOf row) q) = wid (cofE e n g q) := by
  unfold cofG
  rw [redN_cof _ he h1 h2 hq]
  refine wid_cof (fun i hi => ?_) q
  rw [gOf_row]
  have : gOf row i = gOf (wRow g) i := by unfold gOf; rw [hr i hi]
  rw [this, gOf_row]
/-- A call that comes to powers. -/
theorem toR_sem {f : FuncId} {args : List Value} {m : Int} {n e : Nat} {row : Nat → List Value} {g : Nat → Int} (hm : m = ((6 * e : Nat) : Int)) (hf : fineB m = true) (h1 : 2 * e ≤ n) (h2 : n ≤ 6 * e) (hr : rowsLike n row (wRow g)) (hw : okWs n row = true) (hb : ∀ q, q < 2 * e → b127 (cofE e n g q))
    (h : ∀ {v m'}, toR m n row = some (v, m') → MemSem Try.prog f args [] v m') :
    (allR (2 * e) (cofE e n g) = true → MemSem Try.prog f args [] (rgV m (SI 0 (2 * e)) 0) [.rows true true 1 (2 * e) (iRow (cofE e n g))]) ∧
    (allR (2 * e) (cofE e n g) = false → MemSem Try.prog f args [] (rgV 0 (.slice none 0 0) 4) [.no]) := by
  have hc := fine_cases hf
  have hd : m.toNat / 3 = 2 * e := by omega
  have ht : shT n m row = true := by
    unfold shT
    rw [hf, Nat.beq_refl, hw, decide_eq_true (by omega), decide_eq_true (by omega)]
    rfl
  have hq : ∀ q, q < 2 * e → fits (cofG n (2 * e) (gOf row) q) = inRg (cofE e n g q) ∧ (inRg (cofE e n g q) = true → nar (cofG n (2 * e) (gOf row) q) = cofE e n g q) := fun q hq => by
    obtain ⟨a, b⟩ := nar_wid (cofG_wid (by omega) h1 h2 hr hq)
    obtain ⟨c, d⟩ := fits_in (hb q hq)
    rw [a, b]
    exact ⟨c, d⟩
  have hall : allF (2 * e) (cofG n (2 * e) (gOf row)) = allR (2 * e) (cofE e n g) := by
    unfold allF allR
    rw [Bool.eq_iff_iff, List.all_eq_true, List.all_eq_true]
    exact ⟨fun h i hi => by rw [← (hq i (List.mem_range.1 hi)).1]; exact h i hi, fun h i hi => by rw [(hq i (List.mem_range.1 hi)).1]; exact h i hi⟩
  unfold toR at h
  rw [ht, hd, hall] at h
  simp only [gd_true] at h
  refine ⟨fun ha => ?_, fun ha => ?_⟩
  · rw [ha] at h
    unfold okR at h
    rw [hd] at h
    have := h rfl
    refine MemSem.likes this ⟨.rows fun i hi => ?_, trivial⟩
    show [vI (nar (cofG n (2 * e) (gOf row) i))] = [vI (cofE e n g i)]
    rw [(hq i hi).2 (List.all_eq_true.1 ha i (List.mem_range.2 hi))]
  · rw [ha] at h
    exact h rfl
def unG (k : Nat) (v : Int) : Nat → Int := putG (fun _ => 0) k v
theorem zR_like (n k : Nat) (v : Int) : rowsLike n (stR zR k (w2 v)) (wRow (unG k v)) := fun q _ => stR_w (fun _ => 0) k v q
theorem okWs_like {n : Nat} {row : Nat → List Value} {g : Nat → Int} (h : rowsLike n row (wRow g)) : okWs n row = true := List.all_eq_true.2 fun i hi => by
  rw [h i (List.mem_range.1 hi)]
  simp [wRow, hiW_ok, loW_ok]
theorem un_cof (e n k q : Nat) : -2 ≤ cofE e n (unG k 1) q ∧ cofE e n (unG k 1) q ≤ 2 := by
  have hz : ∀ i, cut n (unG k 1) i = 0 ∨ cut n (unG k 1) i = 1 := fun i => by
    unfold cut unG putG
    by_cases h : i < n
    · rw [if_pos h]
      by_cases hk : i = k
      · rw [if_pos hk]; exact Or.inr rfl
      · rw [if_neg hk]; exact Or.inl rfl
    · rw [if_neg h]; exact Or.inl rfl
  unfold cofE cofZ
  generalize cut n (unG k 1) = z at *
  by_cases hq : q < e
  · rw [if_pos hq]
    have a := hz q
    have b := hz (q + 2 * e)
    have c := hz (q + 3 * e)
    have d := hz (q + 5 * e)
    omega
  · rw [if_neg hq]
    have a := hz q
    have b := hz (q + e)
    have c := hz (q + 3 * e)
    have d := hz (q + 4 * e)
    omega
def rootC (j m : Int) : Nat → Int := cofE (m.toNat / 6) m.toNat (unG (j % m).toNat 1)
theorem six {m : Int} (h : fineB m = true) : m = ((6 * (m.toNat / 6) : Nat) : Int) ∧ 1 ≤ m.toNat / 6 ∧ m.toNat / 3 = 2 * (m.toNat / 6) ∧ m.toNat = 6 * (m.toNat / 6) := by
  have := fine_cases h
  omega
def rootF : List Value → Mem → Option (Ans (Value × Mem))
  | [.int .i64 j, .int .i64 m], [] => some (.br (fineB m) (.out (rgV m (SI 0 (m.toNat / 3)) 0, [.rows true true 1 (m.toNat / 3) (iRow (rootC j m))])) (.out (rgV 0 (.slice none 0 0) 1, [.no])))
  | _, _ => none
theorem rootF_ok {args : List Value} {m : Mem} {ans : Ans (Value × Mem)} {v : Value} {m' : Mem} (h : rootF args m = some ans) (hr : ans.res = some (v, m')) : MemSem Try.prog 32 args m v m' := by
  unfold rootF at h
  split at h
  · rename_i j m
    simp only [Option.some.injEq] at h
    subst h
    have ht := rtT j m
    rcases Ans.br_some hr with ⟨hf, g⟩ | ⟨hf, g⟩ <;> clear hr <;> simp only [Ans.res, Option.some.injEq, Prod.mk.injEq] at g <;> obtain ⟨rfl, rfl⟩ := g
    · obtain ⟨s1, s2, s3, s4⟩ := six hf
      have hc := fine_cases hf
      have h2 : 0 ≤ j % m ∧ j % m < m := ⟨Int.emod_nonneg _ (by omega), Int.emod_lt_of_pos _ (by omega)⟩
      rw [hf, show mkW m = true by unfold mkW; simp; omega, boundsI_ok (n := m.toNat) (i := j % m) (by omega)] at ht
      simp only [gd_true, Bool.not_true] at ht
      have hl := zR_like m.toNat (j % m).toNat 1
      have hb := un_cof (m.toNat / 6) m.toNat (j % m).toNat
      have := (toR_sem (f := 32) (args := [vI j, vI m]) (e := m.toNat / 6) s1 hf (by omega) (by omega) hl (okWs_like hl) (fun q _ => by have := hb q; unfold b127; omega) fun {v m'} h => exT_ok okr108 Try.func32 (by kernel_rfl) (ht.trans h)).1 (List.all_eq_true.2 fun i _ => inRg_iff.2 (by have := hb i; omega))
      rw [s3]
      exact this
    · rw [hf] at ht
      exact exT_ok okr108 Try.func32 (by kernel_rfl) ht
  · cases h
def intF : List Value → Mem → Option (Ans (Value × Mem))
  | [.int .i64 n, .int .i64 m], [] => some (.br (i64B n) (.br (fineB m) (.br (inRg n) (.out (rgV m (SI 0 (m.toNat / 3)) 0, [.rows true true 1 (m.toNat / 3) (iRow (unG 0 n))])) (.out (rgV 0 (.slice none 0 0) 4, [.no]))) (.out (rgV 0 (.slice none 0 0) 1, [.no]))) .fail)
  | _, _ => none
theorem int_cof {e q : Nat} (n : Int) (hq : q < 2 * e) : cofE e (2 * e) (unG 0 n) q = unG 0 n q := cof_low _ hq
theorem intF_ok {args : List Value} {m : Mem} {ans : Ans (Value × Mem)} {v : Value} {m' : Mem} (h : intF args m = some ans) (hr : ans.res = some (v, m')) : MemSem Try.prog 34 args m v m' := by
  unfold intF at h
  split at h
  · rename_i n m
    simp only [Option.some.injEq] at h
    subst h
    have ht := itT n m
    rcases Ans.br_some hr with ⟨hn, g0⟩ | ⟨_, g0⟩ <;> clear hr
    rotate_left
    · simp [Ans.res] at g0
    rcases Ans.br_some g0 with ⟨hf, g1⟩ | ⟨hf, g⟩ <;> clear g0
    · obtain ⟨s1, s2, s3, s4⟩ := six hf
      have hc := fine_cases hf
      have hw : W (m.tdiv 3) = ((2 * (m.toNat / 6) : Nat) : Int) := by
        rw [show m = ((3 * (2 * (m.toNat / 6)) : Nat) : Int) by omega, tdiv3, W_in (by omega)]
        omega
      rw [hf, hn, hw, show mkW ((2 * (m.toNat / 6) : Nat) : Int) = true by unfold mkW; simp; omega, Int.toNat_natCast, boundsI_ok (n := 2 * (m.toNat / 6)) (i := 0) (by omega)] at ht
      simp only [gd_true, Bool.not_true] at ht
      have hl := zR_like (2 * (m.toNat / 6)) 0 n
      have hi := i64B_iff.1 hn
      have hb : ∀ q, q < 2 * (m.toNat / 6) → cofE (m.toNat / 6) (2 * (m.toNat / 6)) (unG 0 n) q = 0 ∨ cofE (m.toNat / 6) (2 * (m.toNat / 6)) (unG 0 n) q = n := fun q hq => by
        rw [int_cof n hq]
        unfold unG putG
        by_cases h : q = 0
        · rw [if_pos h]; exact Or.inr rfl
        · rw [if_neg h]; exact Or.inl rfl
      have key := toR_sem (f := 34) (args := [vI n, vI m]) (e := m.toNat / 6) s1 hf (by omega) (by omega) hl (okWs_like hl) (fun q hq => by have := hb q hq; unfold b127; omega) fun {v m'} h => exT_ok okr108 Try.func34 (by kernel_rfl) (ht.trans h)
      have hall : allR (2 * (m.toNat / 6)) (cofE (m.toNat / 6) (2 * (m.toNat / 6)) (unG 0 n)) = inRg n := by
        cases hr : inRg n with
        | true =>
          refine List.all_eq_true.2 fun i hi => ?_
          have := inRg_iff.1 hr
          rcases hb i (List.mem_range.1 hi) with h | h <;> exact inRg_iff.2 (by omega)
        | false =>
          cases ha : allR (2 * (m.toNat / 6)) (cofE (m.toNat / 6) (2 * (m.toNat / 6)) (unG 0 n)) with
          | false => rfl
          | true =>
            have := List.all_eq_true.1 ha 0 (List.mem_range.2 (by omega))
            rw [int_cof n (by omega)] at this
            exact absurd (this.symm.trans hr) (by simp)
      rw [hall] at key
      rcases Ans.br_some g1 with ⟨hr, g⟩ | ⟨hr, g⟩ <;> clear g1 <;> simp only [Ans.res, Option.some.injEq, Prod.mk.injEq] at g <;> obtain ⟨rfl, rfl⟩ := g
      · rw [s3]
        exact (key.1 hr).likes ⟨.rows fun i hi => by unfold iRow; rw [int_cof n hi], trivial⟩
      · exact key.2 hr
    · simp only [Ans.res, Option.some.injEq, Prod.mk.injEq] at g
      obtain ⟨rfl, rfl⟩ := g
      rw [hf] at ht
      exact exT_ok okr108 Try.func34 (by kernel_rfl) ht
  · cases h
def Cr32 (P : Program) : Cx := (Cr108 P).addF 32 rootF
theorem okr32 : CxOk (Cr32 Try.prog) := Cx.addF_ok okr108 fun _ _ _ _ _ h hr => rootF_ok h hr
def Cr34 (P : Program) : Cx := (Cr32 P).addF 34 intF
theorem okr34 : CxOk (Cr34 Try.prog) := Cx.addF_ok okr32 fun _ _ _ _ _ h hr => intF_ok h hr
end Go.Proofs.Ytjhijkdicmbbiaa


namespace Go.Proofs.Ytjhijkdicmbbiaa
open Go Vx Go.RowKit
def ixB (P : Program) : Code := bodyOf P 144
theorem ixB_eq : Try.f144.body = some (ixB Try.prog) := by kernel_rfl
def fnB : Value := .func (.func 118) #[] #[]
abbrev Ir (own : Bool) (n : Nat) (c : Nat → Int) : Blk := .rows own true 1 n (iRow c)
def ixH (own : Bool) (n : Nat) (c : Nat → Int) (i : Int) : St := stOf 19 [(0, SI 0 n), (1, fnB), (4, vI 0), (7, vI n), (8, vI i)] [Ir own n c]
def ixX (own : Bool) (n : Nat) (c : Nat → Int) (v : Int) : St := stOf 19 [(4, vI v)] [Ir own n c]
theorem ixR (own : Bool) (n : Nat) (c : Nat → Int) (i : Nat) : roundR ((Cr34 Try.prog).into 144 1) 60 (forBody (stmt 1 (ixB Try.prog))) [0, 1, 4, 7, 8] [4] [.fix 0] [.fix 0] (ixH own n c (i : Int)) =
  (match decide ((i : Int) < (n : Int)) with
  | true => gd (boundsI (i : Int) n) (match !inRg (c i) with
    | true => some (.ret, ixX own n c (i : Int))
    | false => some (.normal, ixH own n c (W ((i : Int) + 1))))
  | false => some (.exit 0, ixX own n c 0)) := by kernel_rfl
theorem ixFor : isFor 0 (stmt 1 (ixB Try.prog)) = true := by kernel_rfl
theorem ixHas : hasStmt 1 (ixB Try.prog) = true := by kernel_rfl
theorem ixIn : InBody ((Cr34 Try.prog).into 144 1) (forHead (stmt 1 (ixB Try.prog))) ∧ InBody ((Cr34 Try.prog).into 144 1) (forBody (stmt 1 (ixB Try.prog))) := for_in (C := Cr34 Try.prog) (f := 144) (B := 1) (id := 0) (k := 1) (fn := Try.f144) (b := ixB Try.prog) Try.func144 ixB_eq ixFor
theorem ixP (own : Bool) (n : Nat) (c : Nat → Int) : segR ((Cr34 Try.prog).into 144 1) 60 1 (ixB Try.prog) [0, 1, 4] [.fix 0] (enter Try.f144 [SI 0 n, fnB] [Ir own n c]) = some (stOf 19 [(0, SI 0 n), (1, fnB), (4, vI 0)] [Ir own n c]) := by kernel_rfl
theorem ixHead (own : Bool) (n : Nat) (c : Nat → Int) : roundR ((Cr34 Try.prog).into 144 1) 60 (forHead (stmt 1 (ixB Try.prog))) [0, 1, 4, 7, 8] [0, 1, 4, 7, 8] [.fix 0] [.fix 0] (stOf 19 [(0, SI 0 n), (1, fnB), (4, vI 0)] [Ir own n c]) = some (.normal, ixH own n c 0) := by kernel_rfl
theorem ixEnd (own : Bool) (n : Nat) (c : Nat → Int) : roundR ((Cr34 Try.prog).into 144 1) 60 (seqDrop 2 (ixB Try.prog)) [4] [4] [.fix 0] [.fix 0] (ixX own n c 0) = some (.ret, ixX own n c (-1)) := by kernel_rfl
theorem ixRet (own : Bool) (n : Nat) (c : Nat → Int) (v : Int) : (retA Try.prog Try.f144 (.ret, ixX own n c v)).res = some (vI v, [Ir own n c]) := by kernel_rfl
def idxV (n : Nat) (c : Nat → Int) : Int := match fst? (fun i => !inRg (c i)) n 0 with
  | some k => (k : Int)
  | none => -1
theorem ixSem (own : Bool) (n : Nat) (c : Nat → Int) (hn : n ≤ 1048576) : MemSem Try.prog 144 [SI 0 n, fnB] [Ir own n c] (vI (idxV n c)) [Ir own n c] := by
  have body0 : InBody ((Cr34 Try.prog).into 144 1) (ixB Try.prog) := Or.inl ⟨Try.f144, ixB Try.prog, Try.func144, ixB_eq, fun _ hx => hx⟩
  have hs := scan_loop (C := Cr34 Try.prog) okr34 (f := 144) (B := 1) (m := 60) ixIn.2 (n := n) (by omega) (ixH own n c) (fun i => !inRg (c i)) (fun k => ixX own n c (k : Int)) 0 (ixX own n c 0) fun i _ => ixR own n c i
  have hh := end_rule (C := Cr34 Try.prog) okr34 (f := 144) (B := 1) ixIn.1 (ixHead own n c)
  unfold idxV
  cases hk : fst? (fun i => !inRg (c i)) n 0 with
  | none => exact body_mem (m := [Ir own n c]) (args := [SI 0 n, fnB]) (f := 144) Try.func144 ixB_eq (by kernel_rfl) (seg_rule (C := Cr34 Try.prog) okr34 (f := 144) (B := 1) (k := 1) body0 (ixP own n c) (stmt_rule ixHas (for_rule ixFor hh (hs.2 hk)) (end_rule (C := Cr34 Try.prog) okr34 (f := 144) (B := 1) (bodyOf_in Try.func144 ixB_eq) (ixEnd own n c)))) (ixRet own n c _)
  | some k => exact body_mem (m := [Ir own n c]) (args := [SI 0 n, fnB]) (f := 144) Try.func144 ixB_eq (by kernel_rfl) (seg_rule (C := Cr34 Try.prog) okr34 (f := 144) (B := 1) (k := 1) body0 (ixP own n c) (stmt_out ixHas (for_ret ixFor hh (hs.1 k hk)) (by simp))) (ixRet own n c _)
def isI : List Value → Bool
  | [.int .i64 _] => true
  | _ => false
def okIs (n : Nat) (row : Nat → List Value) : Bool := (List.range n).all fun i => isI (row i)
def iOf (row : Nat → List Value) (i : Nat) : Int := match row i with
  | [.int .i64 v] => v
  | _ => 0
theorem okIs_row (n : Nat) (c : Nat → Int) : okIs n (iRow c) = true := List.all_eq_true.2 fun _ _ => rfl
theorem is_like {n : Nat} {row : Nat → List Value} (h : okIs n row = true) : rowsLike n row (iRow (iOf row)) := by
  intro i hi
  have := List.all_eq_true.1 h i (List.mem_range.2 hi)
  unfold iRow iOf
  unfold isI at this
  split at this
  · rename_i v hx
    simp only [hx]
  · cases this
theorem iOf_row (c : Nat → Int) : iOf (iRow c) = c := rfl
def idxF : List Value → Mem → Option (Ans (Value × Mem))
  | [.slice (some ⟨0, 0, some 0⟩) N 1, .func (.func 118) f c], [.rows own true 1 N2 row] => match f.toList, c.toList with
    | [], [] => some (.br (Nat.beq N N2 && (okIs N row && decide (N ≤ 1048576))) (.out (vI (idxV N (iOf row)), [.rows own true 1 N (iRow (iOf row))])) .fail)
    | _, _ => none
  | _, _ => none
theorem idxF_ok {args : List Value} {m : Mem} {ans : Ans (Value × Mem)} {v : Value} {m' : Mem} (h : idxF args m = some ans) (hr : ans.res = some (v, m')) : MemSem Try.prog 144 args m v m' := by
  unfold idxF at h
  split at h
  · rename_i N f c own N2 row
    split at h
    · rename_i e1 e2
      have hf : f = #[] := by apply Array.ext'; simpa using e1
      have hc : c = #[] := by apply Array.ext'; simpa using e2
      subst hf hc
      simp only [Option.some.injEq] at h
      subst h
      rcases Ans.br_some hr with ⟨hc, g⟩ | ⟨_, g⟩ <;> clear hr
      rotate_left
      · simp [Ans.res] at g
      simp only [Bool.and_eq_true, decide_eq_true_eq] at hc
      obtain ⟨c1, c2, c3⟩ := hc
      have e1 := Nat.eq_of_beq_eq_true c1
      subst e1
      simp only [Ans.res, Option.some.injEq, Prod.mk.injEq] at g
      obtain ⟨rfl, rfl⟩ := g
      exact MemSem.like (ixSem own N (iOf row) c3) ⟨.rows (is_like c2), trivial⟩
    · cases h
  · cases h
def Cr144 (P : Program) : Cx := (Cr34 P).addM 144 idxF
theorem okr144 : CxOk (Cr144 Try.prog) := Cx.addM_ok okr34 fun _ _ _ _ _ h hr => idxF_ok h hr
def Cr4 (P : Program) : Cx := (Cr144 P).lend 144
theorem okr4 : CxOk (Cr4 Try.prog) := Cx.lend_ok okr144 _
end Go.Proofs.Ytjhijkdicmbbiaa
