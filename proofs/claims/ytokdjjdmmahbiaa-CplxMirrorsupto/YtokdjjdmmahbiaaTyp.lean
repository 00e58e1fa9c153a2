/-
  The functions of layers 1 and 2 (vec, frac) as functions of matrices, columns and places: what the executor finds (rows of tests, 't..'), and what that comes to ('f..'). Nothing here is trusted.
-/
import Derived.Test.YtokdjjdmmahbiaaMat3
import Derived.Test.YtokdjjdmmahbiaaVecN
namespace Go.Proofs.Ytokdjjdmmahbiaa.Vx
open Go

structure O3 where
  (r : M3) (t : V3)
structure P3 where
  (m : Int) (x : V3)
def O3.zero : O3 := ⟨M3.zero, V3.zero⟩
def P3.zero : P3 := ⟨0, V3.zero⟩

/-! Values -/
def vI (n : Int) : Value := .int .i64 n
def vB (b : Bool) : Value := .bool b
def M3.v (m : M3) : Value := .agg #[.int .i64 m.a, .int .i64 m.b, .int .i64 m.c, .int .i64 m.d, .int .i64 m.e, .int .i64 m.f, .int .i64 m.g, .int .i64 m.h, .int .i64 m.i]
def V3.v (u : V3) : Value := .agg #[.int .i64 u.x, .int .i64 u.y, .int .i64 u.z]
def O3.v (o : O3) : Value := .agg #[.int .i64 o.r.a, .int .i64 o.r.b, .int .i64 o.r.c, .int .i64 o.r.d, .int .i64 o.r.e, .int .i64 o.r.f, .int .i64 o.r.g, .int .i64 o.r.h, .int .i64 o.r.i, .int .i64 o.t.x, .int .i64 o.t.y, .int .i64 o.t.z]
def P3.v (p : P3) : Value := .agg #[.int .i64 p.m, .int .i64 p.x.x, .int .i64 p.x.y, .int .i64 p.x.z]
def p2 (a b : Value) : Value := .tuple #[a, b]

/-! Comparisons, as the executor makes them -/
def M3.eqB (m n : M3) : Bool := eq9 m.a m.b m.c m.d m.e m.f m.g m.h m.i n.a n.b n.c n.d n.e n.f n.g n.h n.i
def V3.eqB (u v : V3) : Bool := eq3 u.x u.y u.z v.x v.y v.z
def O3.eqB (o p : O3) : Bool := o.r.eqB p.r && (o.t.eqB p.t && true)
def P3.eqB (p q : P3) : Bool := (p.m == q.m) && (p.x.eqB q.x && true)
theorem M3.eqB_iff {m n : M3} : m.eqB n = true ↔ m = n := by
  cases m; cases n
  simp only [M3.eqB, eq9, eq3, Bool.and_eq_true, beq_iff_eq, M3.mk.injEq, and_true, and_assoc]
theorem V3.eqB_iff {m n : V3} : m.eqB n = true ↔ m = n := by
  cases m; cases n
  simp only [V3.eqB, eq3, Bool.and_eq_true, beq_iff_eq, V3.mk.injEq, and_true]
theorem O3.eqB_iff {m n : O3} : m.eqB n = true ↔ m = n := by
  cases m; cases n
  simp only [O3.eqB, Bool.and_eq_true, M3.eqB_iff, V3.eqB_iff, O3.mk.injEq, and_true]
theorem P3.eqB_iff {m n : P3} : m.eqB n = true ↔ m = n := by
  cases m; cases n
  simp only [P3.eqB, Bool.and_eq_true, V3.eqB_iff, P3.mk.injEq, and_true, beq_iff_eq]
theorem M3.eqB_refl (m : M3) : m.eqB m = true := M3.eqB_iff.2 rfl
theorem V3.eqB_refl (m : V3) : m.eqB m = true := V3.eqB_iff.2 rfl
theorem O3.eqB_refl (m : O3) : m.eqB m = true := O3.eqB_iff.2 rfl
theorem P3.eqB_refl (m : P3) : m.eqB m = true := P3.eqB_iff.2 rfl
theorem M3.eqB_false {m n : M3} : m.eqB n = false ↔ m ≠ n := by rw [Ne, ← M3.eqB_iff, Bool.not_eq_true]
theorem V3.eqB_false {m n : V3} : m.eqB n = false ↔ m ≠ n := by rw [Ne, ← V3.eqB_iff, Bool.not_eq_true]
theorem O3.eqB_false {m n : O3} : m.eqB n = false ↔ m ≠ n := by rw [Ne, ← O3.eqB_iff, Bool.not_eq_true]
theorem P3.eqB_false {m n : P3} : m.eqB n = false ↔ m ≠ n := by rw [Ne, ← P3.eqB_iff, Bool.not_eq_true]

/-! Bounds -/
def M3.l (m : M3) : List Int := [m.a, m.b, m.c, m.d, m.e, m.f, m.g, m.h, m.i]
def V3.l (m : V3) : List Int := [m.x, m.y, m.z]
def M3.ok (m : M3) : Bool := inB 1000 m.l
def V3.ok (v : V3) : Bool := inB 2147483648 v.l
def M3.Bd (n : Int) (m : M3) : Prop := (-n ≤ m.a ∧ m.a ≤ n) ∧ (-n ≤ m.b ∧ m.b ≤ n) ∧ (-n ≤ m.c ∧ m.c ≤ n) ∧ (-n ≤ m.d ∧ m.d ≤ n) ∧ (-n ≤ m.e ∧ m.e ≤ n) ∧ (-n ≤ m.f ∧ m.f ≤ n) ∧ (-n ≤ m.g ∧ m.g ≤ n) ∧ (-n ≤ m.h ∧ m.h ≤ n) ∧ (-n ≤ m.i ∧ m.i ≤ n)
def V3.Bd (n : Int) (m : V3) : Prop := (-n ≤ m.x ∧ m.x ≤ n) ∧ (-n ≤ m.y ∧ m.y ≤ n) ∧ (-n ≤ m.z ∧ m.z ≤ n)
theorem M3.ok_iff {m : M3} : m.ok = true ↔ m.Bd 1000 := by
  unfold M3.ok M3.l M3.Bd
  rw [inB_iff]
  simp only [List.mem_cons, List.not_mem_nil, or_false, forall_eq_or_imp, forall_eq]
theorem V3.ok_iff {m : V3} : m.ok = true ↔ m.Bd 2147483648 := by
  unfold V3.ok V3.l V3.Bd
  rw [inB_iff]
  simp only [List.mem_cons, List.not_mem_nil, or_false, forall_eq_or_imp, forall_eq]
theorem M3.Bd.mono {m : M3} {k n : Int} (h : m.Bd k) (hk : k ≤ n) : m.Bd n := by unfold M3.Bd at *; omega
theorem V3.Bd.mono {m : V3} {k n : Int} (h : m.Bd k) (hk : k ≤ n) : m.Bd n := by unfold V3.Bd at *; omega
/-- Products of three with three. -/
theorem dot_bd {m n a b c d e f : Int} (ha : -m ≤ a ∧ a ≤ m) (hb : -m ≤ b ∧ b ≤ m) (hc : -m ≤ c ∧ c ≤ m) (hd : -n ≤ d ∧ d ≤ n) (he : -n ≤ e ∧ e ≤ n) (hf : -n ≤ f ∧ f ≤ n) :
    -(3 * (m * n)) ≤ a * d + b * e + c * f ∧ a * d + b * e + c * f ≤ 3 * (m * n) := by
  have h1 := bd_mul ha hd
  have h2 := bd_mul hb he
  have h3 := bd_mul hc hf
  omega
theorem min_bd {m n a b c d : Int} (ha : -m ≤ a ∧ a ≤ m) (hb : -n ≤ b ∧ b ≤ n) (hc : -m ≤ c ∧ c ≤ m) (hd : -n ≤ d ∧ d ≤ n) :
    -(2 * (m * n)) ≤ a * b - c * d ∧ a * b - c * d ≤ 2 * (m * n) := by
  have h1 := bd_mul ha hb
  have h2 := bd_mul hc hd
  omega
theorem M3.Bd.mul {m n : M3} {k l : Int} (hm : m.Bd k) (hn : n.Bd l) : (m.mul n).Bd (3 * (k * l)) := by
  obtain ⟨a, b, c, d, e, f, g, h, i⟩ := hm
  obtain ⟨a', b', c', d', e', f', g', h', i'⟩ := hn
  exact ⟨dot_bd a b c a' d' g', dot_bd a b c b' e' h', dot_bd a b c c' f' i', dot_bd d e f a' d' g', dot_bd d e f b' e' h', dot_bd d e f c' f' i', dot_bd g h i a' d' g', dot_bd g h i b' e' h', dot_bd g h i c' f' i'⟩
theorem M3.Bd.app {m : M3} {v : V3} {k l : Int} (hm : m.Bd k) (hn : v.Bd l) : (m.app v).Bd (3 * (k * l)) := by
  obtain ⟨a, b, c, d, e, f, g, h, i⟩ := hm
  obtain ⟨x, y, z⟩ := hn
  exact ⟨dot_bd a b c x y z, dot_bd d e f x y z, dot_bd g h i x y z⟩
theorem M3.Bd.adj {m : M3} {k : Int} (hm : m.Bd k) : m.adj.Bd (2 * (k * k)) := by
  obtain ⟨a, b, c, d, e, f, g, h, i⟩ := hm
  exact ⟨min_bd e i f h, min_bd h c i b, min_bd b f c e, min_bd f g d i, min_bd i a g c, min_bd c d a f, min_bd d h e g, min_bd g b h a, min_bd a e b d⟩
theorem M3.Bd.det {m : M3} {k : Int} (hm : m.Bd k) : -(3 * (k * (2 * (k * k)))) ≤ m.det ∧ m.det ≤ 3 * (k * (2 * (k * k))) := by
  obtain ⟨a, b, c, d, e, f, g, h, i⟩ := hm
  exact dot_bd a b c (min_bd e i f h) (min_bd f g d i) (min_bd d h e g)
theorem M3.Bd.inv {m : M3} {k : Int} (hm : m.Bd k) (hu : m.U) : m.inv.Bd (2 * (k * k)) := by
  have h := hm.adj
  unfold M3.Bd M3.inv M3.smul at *
  simp only
  rcases hu with e | e <;> rw [e] <;> omega

/-- A number wrapped round that lies within. -/
theorem W_in {n : Int} (h : -9000000000000000000 ≤ n ∧ n ≤ 9000000000000000000) : W n = n := W_id (by omega) (by omega)

/-! vec -/
def M3.ck (m : M3) : Int := bif m.ok then 0 else 4
theorem chk_ck (m : M3) : chk m.a m.b m.c m.d m.e m.f m.g m.h m.i = m.ck := chk_eq _ _ _ _ _ _ _ _ _
def unitB (d : Int) : Bool := d == 1 || d == -1
theorem unitB_iff {d : Int} : unitB d = true ↔ (d = 1 ∨ d = -1) := by simp [unitB]
/-- What keeps a matrix from being in form. -/
def M3.form (m : M3) : Int := bif m.ok then (bif unitB m.det then 0 else 3) else 4
theorem M3.form_zero {m : M3} : m.form = 0 ↔ m.ok = true ∧ m.U := by
  unfold M3.form M3.U
  rw [← unitB_iff]
  cases m.ok <;> cases unitB m.det <;> simp

def tWithin (v : V3) (n : Int) : Option Value := chainO mk1 (withinT v.x v.y v.z n) [0]
def fWithin (v : V3) (n : Int) : Value := vI (withinR v.x v.y v.z n)
theorem tWithin_eq (v : V3) (n : Int) : tWithin v n = some (fWithin v n) := by
  unfold tWithin fWithin
  rw [chain_eq]; rfl
def tCheck (m : M3) : Option Value := chainO mk1 (checkT m.a m.b m.c m.d m.e m.f m.g m.h m.i) [0]
def fCheck (m : M3) : Value := vI m.ck
theorem tCheck_eq (m : M3) : tCheck m = some (fCheck m) := by
  unfold tCheck fCheck
  rw [chain_eq, ← chk_ck]; rfl
def tBoth (m : M3) (v : V3) : Option Value := chainO mk1 [(m.ck != 0, [m.ck])] [withinR v.x v.y v.z 2147483648]
def fBoth (m : M3) (v : V3) : Value := vI (bif m.ok && v.ok then 0 else 4)
theorem tBoth_eq (m : M3) (v : V3) : tBoth m v = some (fBoth m v) := by
  unfold tBoth fBoth
  rw [chain_eq, within_eq _ _ _ _ (by omega) (by omega)]
  change some (mk1 (chainL [(m.ck != 0, [m.ck])] [bif v.ok then 0 else 4])) = _
  unfold M3.ck
  cases m.ok <;> cases v.ok <;> rfl
def prodW (m n : M3) : List Int := prodL m.a m.b m.c m.d m.e m.f m.g m.h m.i n.a n.b n.c n.d n.e n.f n.g n.h n.i
theorem dotR_in {a b c d e f : Int} (h : -9000000000000000000 ≤ a * d + b * e + c * f ∧ a * d + b * e + c * f ≤ 9000000000000000000) : dotR a b c d e f = a * d + b * e + c * f := by rw [dotR_W, W_in h]
theorem prodW_eq {m n : M3} (h : (m.mul n).Bd 9000000000000000000) : prodW m n = (m.mul n).l := by
  obtain ⟨h0, h1, h2, h3, h4, h5, h6, h7, h8⟩ := h
  simp only [prodW, prodL, M3.l]
  rw [dotR_in h0, dotR_in h1, dotR_in h2, dotR_in h3, dotR_in h4, dotR_in h5, dotR_in h6, dotR_in h7, dotR_in h8]
  rfl
def tMul (m n : M3) : Option Value := chainO mkMe [(m.ck != 0, zeros9 m.ck), (n.ck != 0, zeros9 n.ck)] (prodW m n ++ [0])
def M3.mulF (m n : M3) : M3 := bif m.ok && n.ok then m.mul n else M3.zero
def fMul (m n : M3) : Value := p2 (m.mulF n).v (vI (bif m.ok && n.ok then 0 else 4))
theorem tMul_eq (m n : M3) : tMul m n = some (fMul m n) := by
  unfold tMul fMul M3.mulF
  rw [chain_eq]
  unfold M3.ck
  cases h1 : m.ok <;> cases h2 : n.ok <;> simp only [cond_true, cond_false, Bool.and_true, Bool.and_false, chainL, bne_self_eq_false]
  · rfl
  · rfl
  · rfl
  · rw [prodW_eq (((M3.ok_iff.1 h1).mul (M3.ok_iff.1 h2)).mono (by omega))]; rfl
def appW (m : M3) (v : V3) : List Int := [dotR m.a m.b m.c v.x v.y v.z, dotR m.d m.e m.f v.x v.y v.z, dotR m.g m.h m.i v.x v.y v.z]
theorem appW_eq {m : M3} {v : V3} (h : (m.app v).Bd 9000000000000000000) : appW m v = (m.app v).l := by
  obtain ⟨h0, h1, h2⟩ := h
  simp only [appW, V3.l]
  rw [dotR_in h0, dotR_in h1, dotR_in h2]
  rfl
def tApply (m : M3) (v : V3) : Option Value := chainO mkVe [((bif m.ok && v.ok then 0 else 4 : Int) != 0, [0, 0, 0, bif m.ok && v.ok then 0 else 4])] (appW m v ++ [0])
def M3.appF (m : M3) (v : V3) : V3 := bif m.ok && v.ok then m.app v else V3.zero
def fApply (m : M3) (v : V3) : Value := p2 (m.appF v).v (vI (bif m.ok && v.ok then 0 else 4))
theorem tApply_eq (m : M3) (v : V3) : tApply m v = some (fApply m v) := by
  unfold tApply fApply M3.appF
  rw [chain_eq]
  cases h1 : m.ok <;> cases h2 : v.ok <;> simp only [cond_true, cond_false, Bool.and_true, Bool.and_false, chainL, bne_self_eq_false]
  · rfl
  · rfl
  · rfl
  · rw [appW_eq (((M3.ok_iff.1 h1).app (V3.ok_iff.1 h2)).mono (by omega))]; rfl
def detW (m : M3) : Int := detR m.a m.b m.c m.d m.e m.f m.g m.h m.i
theorem detW_W (m : M3) : detW m = W m.det := detR_eq _ _ _ _ _ _ _ _ _
theorem detW_eq {m : M3} (h : m.ok = true) : detW m = m.det := by
  rw [detW_W, W_in]
  have := (M3.ok_iff.1 h).det
  omega
def tDet (m : M3) : Option Value := chainO mkIe [(m.ck != 0, [0, m.ck])] [detW m, 0]
def fDet (m : M3) : Value := p2 (vI (bif m.ok then m.det else 0)) (vI m.ck)
theorem tDet_eq (m : M3) : tDet m = some (fDet m) := by
  unfold tDet fDet
  rw [chain_eq]
  unfold M3.ck
  cases h : m.ok
  · rfl
  · rw [detW_eq h]; rfl
def invW (m : M3) : List Int := invL m.a m.b m.c m.d m.e m.f m.g m.h m.i
theorem minR_in {a b c d : Int} (h : -9000000000000000000 ≤ a * b - c * d ∧ a * b - c * d ≤ 9000000000000000000) : minR a b c d = a * b - c * d := by rw [minR_W, W_in h]
theorem invW_eq {m : M3} (h : m.ok = true) (hu : m.U) : invW m = m.inv.l := by
  have hb := M3.ok_iff.1 h
  have hd : detR m.a m.b m.c m.d m.e m.f m.g m.h m.i = m.det := detW_eq h
  obtain ⟨h0, h1, h2, h3, h4, h5, h6, h7, h8⟩ := hb.adj.mono (show 2 * (1000 * 1000) ≤ 9000000000000000000 by omega)
  have hw := (hb.inv hu).mono (show 2 * (1000 * 1000) ≤ 9000000000000000000 by omega)
  obtain ⟨k0, k1, k2, k3, k4, k5, k6, k7, k8⟩ := hw
  simp only [invW, invL, hd]
  simp only [M3.adj] at h0 h1 h2 h3 h4 h5 h6 h7 h8
  rw [minR_in h0, minR_in h1, minR_in h2, minR_in h3, minR_in h4, minR_in h5, minR_in h6, minR_in h7, minR_in h8]
  simp only [M3.inv, M3.smul, M3.adj] at k0 k1 k2 k3 k4 k5 k6 k7 k8
  rw [W_in k0, W_in k1, W_in k2, W_in k3, W_in k4, W_in k5, W_in k6, W_in k7, W_in k8]
  rfl
def tInverse (m : M3) : Option Value :=
  match m.ck != 0 with
  | true => some (mkMe (zeros9 m.ck))
  | false => match detW m != 1 with
    | true => match detW m != -1 with
      | true => some (mkMe (zeros9 3))
      | false => some (mkMe (invW m ++ [0]))
    | false => some (mkMe (invW m ++ [0]))
def M3.invF (m : M3) : M3 := bif m.form == 0 then m.inv else M3.zero
def fInverse (m : M3) : Value := p2 m.invF.v (vI m.form)
theorem tInverse_eq (m : M3) : tInverse m = some (fInverse m) := by
  unfold tInverse fInverse M3.invF M3.form M3.ck
  cases h : m.ok
  · rfl
  · simp only [cond_true, bne_self_eq_false, detW_eq h]
    by_cases h1 : m.det = 1
    · rw [invW_eq h (Or.inl h1), h1]; rfl
    · by_cases h2 : m.det = -1
      · rw [invW_eq h (Or.inr h2), h2]; rfl
      · have e1 : (m.det != 1) = true := by simpa using h1
        have e2 : (m.det != -1) = true := by simpa using h2
        have e3 : unitB m.det = false := by simp [unitB, h1, h2]
        rw [e1, e2, e3]; rfl
/-- The first of 1, 2, 3, 4, 6 that makes a power the identity; 0: none. -/
def M3.ordI (m : M3) : Int :=
  bif m.eqB M3.one then 1 else bif (m.pow 2).eqB M3.one then 2 else bif (m.pow 3).eqB M3.one then 3 else bif (m.pow 4).eqB M3.one then 4 else bif (m.pow 6).eqB M3.one then 6 else 0
def lM (l : List Int) : M3 := ⟨nth l 0, nth l 1, nth l 2, nth l 3, nth l 4, nth l 5, nth l 6, nth l 7, nth l 8⟩
theorem lM_l (m : M3) : lM m.l = m := rfl
def tOrder (m : M3) : Option Value :=
  chainO mkIe [(m.form != 0, [0, m.form]), (m.eqB M3.one, [1, 0]), (m.eqB m.invF, [2, 0]), ((lM (prodW m m)).eqB m.invF, [3, 0]), ((lM (prodW m m)).eqB (lM (prodW m.invF m.invF)), [4, 0]),
    ((lM (prodW (lM (prodW m m)) (lM (prodW m m)))).eqB (lM (prodW m.invF m.invF)), [6, 0])] [0, 9]
def M3.ordF (m : M3) : Int := bif m.form == 0 then m.ordI else 0
def M3.ordE (m : M3) : Int := bif m.form == 0 then (bif m.ordI == 0 then 9 else 0) else m.form
def fOrder (m : M3) : Value := p2 (vI m.ordF) (vI m.ordE)
theorem beq_of_iff {p q : Bool} (h : p = true ↔ q = true) : p = q := by cases p <;> cases q <;> simp_all
theorem M3.pow2 (m : M3) : m.pow 2 = m.mul m := by simp only [M3.pow]; rw [M3.mul_one]
theorem M3.cancel_iff {m x y : M3} (h : m.U) : x = y ↔ m.mul x = m.mul y := ⟨fun e => by rw [e], M3.cancel_left h⟩
theorem tOrder_eq (m : M3) : tOrder m = some (fOrder m) := by
  unfold tOrder fOrder M3.ordF M3.ordE
  rw [chain_eq]
  by_cases hf : m.form = 0
  · obtain ⟨hok, hu⟩ := M3.form_zero.1 hf
    have hb := M3.ok_iff.1 hok
    have hi := hb.inv hu
    have e0 : m.invF = m.inv := by unfold M3.invF; rw [hf]; rfl
    have hmm := hb.mul hb
    have hii := hi.mul hi
    rw [e0, prodW_eq (hmm.mono (by omega)), prodW_eq (hii.mono (by omega)), lM_l, lM_l, prodW_eq ((hmm.mul hmm).mono (by omega)), lM_l, hf]
    have k2 : m.eqB m.inv = (m.pow 2).eqB M3.one := beq_of_iff (by rw [M3.eqB_iff, M3.eqB_iff, M3.pow2, M3.cancel_iff hu, M3.mul_inv hu])
    have k3 : (m.mul m).eqB m.inv = (m.pow 3).eqB M3.one := beq_of_iff (by
      rw [M3.eqB_iff, M3.eqB_iff, M3.cancel_iff hu, M3.mul_inv hu]; simp only [M3.pow]; rw [M3.mul_one])
    have k4 : (m.mul m).eqB (m.inv.mul m.inv) = (m.pow 4).eqB M3.one := beq_of_iff (by
      rw [M3.eqB_iff, M3.eqB_iff, M3.cancel_iff hu, ← M3.mul_assoc m m.inv, M3.mul_inv hu, M3.one_mul, M3.cancel_iff hu, M3.mul_inv hu]; simp only [M3.pow]; rw [M3.mul_one])
    have k6 : ((m.mul m).mul (m.mul m)).eqB (m.inv.mul m.inv) = (m.pow 6).eqB M3.one := beq_of_iff (by
      rw [M3.eqB_iff, M3.eqB_iff, M3.cancel_iff hu, ← M3.mul_assoc m m.inv, M3.mul_inv hu, M3.one_mul, M3.cancel_iff hu, M3.mul_inv hu]; simp only [M3.pow]; rw [M3.mul_one, M3.mul_assoc m m])
    rw [k2, k3, k4, k6]
    unfold M3.ordI
    cases m.eqB M3.one <;> cases (m.pow 2).eqB M3.one <;> cases (m.pow 3).eqB M3.one <;> cases (m.pow 4).eqB M3.one <;> cases (m.pow 6).eqB M3.one <;> rfl
  · have e1 : (m.form != 0) = true := by simpa using hf
    have e2 : (m.form == 0) = false := by simpa using hf
    rw [e1, e2]; rfl
/-- What ordI tells. -/
theorem M3.ordI_spec {m : M3} (h : m.ordI ≠ 0) : ∃ n : Nat, m.ordI = n ∧ m.IsOrd n ∧ (n = 1 ∨ n = 2 ∨ n = 3 ∨ n = 4 ∨ n = 6) := by
  unfold M3.ordI at h ⊢
  cases h1 : m.eqB M3.one with
  | true => exact ⟨1, rfl, M3.ord1 (M3.eqB_iff.1 h1), by omega⟩
  | false =>
    cases h2 : (m.pow 2).eqB M3.one with
    | true => exact ⟨2, rfl, M3.ord2 (M3.eqB_false.1 h1) (M3.eqB_iff.1 h2), by omega⟩
    | false =>
      cases h3 : (m.pow 3).eqB M3.one with
      | true => exact ⟨3, rfl, M3.ord3 (M3.eqB_false.1 h1) (M3.eqB_iff.1 h3), by omega⟩
      | false =>
        cases h4 : (m.pow 4).eqB M3.one with
        | true => exact ⟨4, rfl, M3.ord4 (M3.eqB_false.1 h1) (M3.eqB_false.1 h2) (M3.eqB_iff.1 h4), by omega⟩
        | false =>
          cases h6 : (m.pow 6).eqB M3.one with
          | true => exact ⟨6, rfl, M3.ord6 (M3.eqB_false.1 h1) (M3.eqB_false.1 h2) (M3.eqB_false.1 h3) (M3.eqB_iff.1 h6), by omega⟩
          | false => rw [h1, h2, h3, h4, h6] at h; exact absurd rfl h
theorem M3.ordI_of {m : M3} {n : Nat} (h : m.IsOrd n) (hn : n = 1 ∨ n = 2 ∨ n = 3 ∨ n = 4 ∨ n = 6) : m.ordI = n := by
  have key : ∀ k, (m.pow k).eqB M3.one = decide (n ∣ k) := fun k => beq_of_iff (by rw [M3.eqB_iff, h.dvd k]; simp)
  unfold M3.ordI
  have k1 : m.eqB M3.one = decide (n ∣ 1) := by rw [← key, M3.pow_one]
  rw [k1, key, key, key, key]
  rcases hn with rfl | rfl | rfl | rfl | rfl <;> rfl

/-! frac -/
def md (n m : Int) : Int := match decide (Int.tmod n m < 0) with
  | true => W (Int.tmod n m + m)
  | false => Int.tmod n m
theorem md_emod (n m : Int) (h0 : 0 < m) (h1 : m ≤ 1000) : md n m = n % m := by
  unfold md
  have h := Int.tmod_add_mul_tdiv n m
  have hb := tmod_bd n m h0
  have e2 : (n.tmod m) % m = n % m := by
    conv => rhs; rw [← h]
    rw [Int.add_mul_emod_self_left]
  by_cases hn : n.tmod m < 0
  · have : decide (n.tmod m < 0) = true := by simpa using hn
    rw [this]
    simp only
    rw [W_in (by omega), ← e2]
    have : (n.tmod m + m) % m = n.tmod m % m := Int.add_emod_right _ _
    rw [← this, Int.emod_eq_of_lt (by omega) (by omega)]
  · have : decide (n.tmod m < 0) = false := by simpa using hn
    rw [this]
    simp only
    rw [← e2, Int.emod_eq_of_lt (by omega) (by omega)]
/-- A number that is divided by: above 0, and not too great. -/
def modB (m : Int) : Bool := decide (0 < m) && decide (m ≤ 1000)
theorem modB_iff {m : Int} : modB m = true ↔ 0 < m ∧ m ≤ 1000 := by simp [modB]
def tResidue (n m : Int) : Option Value := match m == 0 with
  | true => none
  | false => match decide (Int.tmod n m < 0) with
    | true => some (.int .i64 (W (Int.tmod n m + m)))
    | false => some (.int .i64 (Int.tmod n m))
theorem tResidue_eq {n m : Int} (h : modB m = true) : tResidue n m = some (vI (n % m)) := by
  obtain ⟨h0, h1⟩ := modB_iff.1 h
  have e : (m == 0) = false := by simp; omega
  rw [← md_emod n m h0 h1]
  unfold tResidue md vI
  rw [e]
  cases decide (Int.tmod n m < 0) <;> rfl
def V3.a24 (u v : V3) : V3 := ⟨(u.x % 24 + v.x % 24) % 24, (u.y % 24 + v.y % 24) % 24, (u.z % 24 + v.z % 24) % 24⟩
theorem V3.a24_eq (u v : V3) : u.a24 v = (u.add v).md 24 := by
  unfold V3.a24 V3.add V3.md
  simp only [V3.mk.injEq]
  omega
theorem mod24_in (x y : Int) : W (x % 24 + y % 24) = x % 24 + y % 24 := W_in (by omega)
def tAdd (u v : V3) : Option Value := some (V3.v ⟨W (u.x % 24 + v.x % 24) % 24, W (u.y % 24 + v.y % 24) % 24, W (u.z % 24 + v.z % 24) % 24⟩)
def fAdd (u v : V3) : Value := ((u.add v).md 24).v
theorem tAdd_eq (u v : V3) : tAdd u v = some (fAdd u v) := by
  unfold tAdd fAdd
  rw [mod24_in, mod24_in, mod24_in, ← V3.a24_eq]; rfl
def tNeg (u : V3) : Option Value := some (V3.v ⟨W (0 - u.x % 24) % 24, W (0 - u.y % 24) % 24, W (0 - u.z % 24) % 24⟩)
def fNeg (u : V3) : Value := (u.neg.md 24).v
theorem tNeg_eq (u : V3) : tNeg u = some (fNeg u) := by
  unfold tNeg fNeg
  rw [W_in (by omega), W_in (by omega), W_in (by omega)]
  have : u.neg.md 24 = ⟨(0 - u.x % 24) % 24, (0 - u.y % 24) % 24, (0 - u.z % 24) % 24⟩ := by
    unfold V3.neg V3.md; simp only [V3.mk.injEq]; omega
  rw [this]
def V3.smul (n : Int) (u : V3) : V3 := ⟨n * u.x, n * u.y, n * u.z⟩
def tTimes (n : Int) (u : V3) : Option Value := some (V3.v ⟨W (n % 24 * (u.x % 24)) % 24, W (n % 24 * (u.y % 24)) % 24, W (n % 24 * (u.z % 24)) % 24⟩)
def fTimes (n : Int) (u : V3) : Value := ((u.smul n).md 24).v
theorem times_in (n x : Int) : W (n % 24 * (x % 24)) % 24 = n * x % 24 := by
  have h1 : 0 ≤ n % 24 ∧ n % 24 < 24 := by omega
  have h2 : 0 ≤ x % 24 ∧ x % 24 < 24 := by omega
  have := bd_mul (m := 24) (n := 24) (x := n % 24) (y := x % 24) (by omega) (by omega)
  rw [W_in (by omega), ← Int.mul_emod]
theorem tTimes_eq (n : Int) (u : V3) : tTimes n u = some (fTimes n u) := by
  unfold tTimes fTimes V3.smul V3.md
  rw [times_in, times_in, times_in]
def isF (m : Int) : Bool := (m == 24) || ((m == 48) || ((m == 96) || (m == 192)))
theorem isF_iff {m : Int} : isF m = true ↔ m = 24 ∨ m = 48 ∨ m = 96 ∨ m = 192 := by simp [isF]
theorem isF_modB {m : Int} (h : isF m = true) : modB m = true := by
  rw [modB_iff]; rcases isF_iff.1 h with rfl | rfl | rfl | rfl <;> omega
def tFine (m : Int) : Option Value := match m == 24 with
  | true => some (.bool true)
  | false => match m == 48 with
    | true => some (.bool true)
    | false => match m == 96 with
      | true => some (.bool true)
      | false => some (.bool (m == 192))
def fFine (m : Int) : Value := .bool (isF m)
theorem tFine_eq (m : Int) : tFine m = some (fFine m) := by
  unfold tFine fFine isF
  cases m == 24 <;> cases m == 48 <;> cases m == 96 <;> rfl
/-- Go on where this holds. -/
def onO (b : Bool) (k : Option Value) : Option Value := match b with
  | true => k
  | false => none
theorem onO_true {b : Bool} (h : b = true) (k : Option Value) : onO b k = k := by subst h; rfl
def P3.form (p : P3) : Bool := isF p.m && p.x.eqB (p.x.md p.m)
def tPForm (p : P3) : Option Value := match isF p.m with
  | true => onO (modB p.m) (onO (modB p.m) (onO (modB p.m) (some (.bool (p.x.eqB (p.x.md p.m))))))
  | false => some (.bool false)
def fPForm (p : P3) : Value := .bool p.form
theorem tPForm_eq (p : P3) : tPForm p = some (fPForm p) := by
  unfold tPForm fPForm P3.form
  cases h : isF p.m with
  | true => simp only [onO_true (isF_modB h), Bool.true_and]
  | false => rfl
theorem P3.form_spec {p : P3} (h : p.form = true) : (p.m = 24 ∨ p.m = 48 ∨ p.m = 96 ∨ p.m = 192) ∧ (0 ≤ p.x.x ∧ p.x.x < p.m) ∧ (0 ≤ p.x.y ∧ p.x.y < p.m) ∧ (0 ≤ p.x.z ∧ p.x.z < p.m) := by
  unfold P3.form at h
  rw [Bool.and_eq_true] at h
  have hm := isF_iff.1 h.1
  have hx := V3.eqB_iff.1 h.2
  refine ⟨hm, ?_⟩
  have e1 : p.x.x = p.x.x % p.m := congrArg V3.x hx
  have e2 : p.x.y = p.x.y % p.m := congrArg V3.y hx
  have e3 : p.x.z = p.x.z % p.m := congrArg V3.z hx
  rcases hm with e | e | e | e <;> rw [e] at e1 e2 e3 ⊢ <;> omega
def tPlace (m : Int) (v : V3) : Option Value := match !(isF m) with
  | true => some (p2 P3.zero.v (vI 1))
  | false => onO (modB m) (onO (modB m) (onO (modB m) (some (p2 (P3.v ⟨m, v.md m⟩) (vI 0)))))
def P3.place (m : Int) (v : V3) : P3 := bif isF m then ⟨m, v.md m⟩ else P3.zero
def fPlace (m : Int) (v : V3) : Value := p2 (P3.place m v).v (vI (bif isF m then 0 else 1))
theorem tPlace_eq (m : Int) (v : V3) : tPlace m v = some (fPlace m v) := by
  unfold tPlace fPlace P3.place
  cases h : isF m with
  | true => simp only [Bool.not_true, onO_true (isF_modB h), cond_true]
  | false => rfl
def shW (m x t : Int) : Int := W (x + W (t % 24 * W (Int.tdiv m 24))) % m
def tShift (p : P3) (t : V3) : Option Value := match !p.form with
  | true => some (p2 P3.zero.v (vI 3))
  | false => onO (modB p.m) (onO (modB p.m) (onO (modB p.m) (some (p2 (P3.v ⟨p.m, ⟨shW p.m p.x.x t.x, shW p.m p.x.y t.y, shW p.m p.x.z t.z⟩⟩) (vI 0)))))
def P3.shift (p : P3) (t : V3) : P3 := ⟨p.m, (p.x.add (t.smul (p.m / 24))).md p.m⟩
theorem smul_comm' (a b : Int) : b * a = a * b := Int.mul_comm _ _
def fShift (p : P3) (t : V3) : Value := p2 (bif p.form then p.shift t else P3.zero).v (vI (bif p.form then 0 else 3))
theorem shW_eq {m x : Int} (t : Int) (hm : m = 24 ∨ m = 48 ∨ m = 96 ∨ m = 192) (hx : 0 ≤ x ∧ x < m) : shW m x t = (x + m / 24 * t) % m := by
  unfold shW
  rcases hm with rfl | rfl | rfl | rfl
  · rw [show W (Int.tdiv 24 24) = 1 from rfl, W_in (n := t % 24 * 1) (by omega), W_in (by omega)]; omega
  · rw [show W (Int.tdiv 48 24) = 2 from rfl, W_in (n := t % 24 * 2) (by omega), W_in (by omega)]; omega
  · rw [show W (Int.tdiv 96 24) = 4 from rfl, W_in (n := t % 24 * 4) (by omega), W_in (by omega)]; omega
  · rw [show W (Int.tdiv 192 24) = 8 from rfl, W_in (n := t % 24 * 8) (by omega), W_in (by omega)]; omega
theorem tShift_eq (p : P3) (t : V3) : tShift p t = some (fShift p t) := by
  unfold tShift fShift
  cases h : p.form with
  | true =>
    obtain ⟨hm, h1, h2, h3⟩ := P3.form_spec h
    have hmod : modB p.m = true := modB_iff.2 (by omega)
    simp only [Bool.not_true, onO_true hmod, cond_true]
    rw [shW_eq _ hm h1, shW_eq _ hm h2, shW_eq _ hm h3]
    rfl
  | false => rfl
end Go.Proofs.Ytokdjjdmmahbiaa.Vx
