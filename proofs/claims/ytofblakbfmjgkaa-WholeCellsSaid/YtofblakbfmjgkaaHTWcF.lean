/-
  WholeCells answers true where what it holds to holds. Nothing here is trusted.
-/
import Derived.Test.YtofblakbfmjgkaaHTWcK
namespace Go.Proofs.Ytofblakbfmjgkaa
open Go Vx Go.RowKit
theorem orr_ok {l : List Bool} {k : Option (Exit × St)} (h : ∀ c ∈ l, c = false) : orr l k = k := by
  induction l with
  | nil => rfl
  | cons c l ih =>
    have hc := h c (by simp)
    subst hc
    exact ih fun x hx => h x (by simp [hx])
theorem anr_ok {l : List Bool} {k : Option (Exit × St)} (h : ∀ c ∈ l, c = true) : anr l k = k := by
  induction l with
  | nil => rfl
  | cons c l ih =>
    have hc := h c (by simp)
    subst hc
    exact ih fun x hx => h x (by simp [hx])
def L19 (R : RC) (m n : G6) (c : O3) (u v h : V3) : List Bool := [R.be c m != 0, R.ae c.r u != 0, R.ae c.r v != 0, R.f m u v != 0, R.f n (R.ap c.r u) (R.ap c.r v) != 0, R.bie c h != 0, R.e m h != 0, R.e n (R.bi c h) != 0, R.K m != 0, R.K n != 0, R.d m u v != R.d n (R.ap c.r u) (R.ap c.r v), !((R.s m h).eqB (R.s n (R.bi c h))), R.D m != R.D n, ((R.s m h).num == 0) != eq3 h.x h.y h.z 0 0 0]
def L26 (R : RC) (m n : G6) : List Bool := [R.K m != 0, R.K m != 0, R.K n != 0, R.K (R.G m) != 0, R.h m != R.h n, R.sB (R.G m), decide (R.N m < 0)]
def L28 (R : RC) (m : G6) : List Bool := [R.E m (R.P m) != 0, R.ve (R.P m) != 0, !((R.T m (R.P m)).eqB (R.G m)), W (R.vd (R.P m) * R.vd (R.P m)) != 1]
def L29 (R : RC) (m g : G6) : List Bool := [decide (g.bc ≤ 0), decide (g.ac ≤ 0), decide (g.ab ≤ 0), decide (W (W (W (0 - g.aa) - g.ab) - g.ac) ≤ 0), decide (W (W (W (0 - g.ab) - g.bb) - g.bc) ≤ 0), decide (W (W (W (0 - g.ac) - g.bc) - g.cc) ≤ 0), decide (R.h m ≤ g.aa), decide (R.h m ≤ g.bb), decide (R.h m ≤ g.cc)]
structure Good (R : RC) (m n : G6) (c : O3) (u v h : V3) : Prop where
  k : R.K m = 0
  a : ∀ x ∈ L19 R m n c u v h, x = false
  b : ∀ x ∈ L26 R m n, x = false
  c : (R.ve (R.P m) != 0) = true ∧ (R.E m (R.P m) == 4) = true ∧ (R.ve (R.P m) == 4) = true ∨ (R.ve (R.P m) != 0) = false ∧ ∀ x ∈ L28 R m, x = false
  d : ∀ x ∈ L29 R m (R.G m), x = true
  e : R.ns m (R.h m) = true
set_option maxRecDepth 100000 in
theorem wcIn : InBody ((Cz Rc Try.prog).into 17 0) (wcB Try.prog) := bodyOf_in (C := Cz Rc Try.prog) (f := 17) (B := 0) (k := 0) (fn := Try.f17) (b := wcB Try.prog) Try.func17 wcB_eq
noncomputable def wcC (k : Int) : O3 := ⟨(Rc.tm (Rc.sg k) shr3), ⟨0, 0, 0⟩⟩
theorem two_ok : Rc.K ⟨2, 2, 2, 0, 0, 0⟩ = 0 ∧ Rc.D ⟨2, 2, 2, 0, 0, 0⟩ = 8 := by constructor <;> (simp only [Rc]; decide +kernel)
theorem wcTail {R : RC} (hR : R = Rc) {m : G6} {k : Int} {u v w x y z i j l : Int} (hk : (decide (0 ≤ k) && decide (k < 256)) = true) (h : Good R m (R.bm ⟨R.tm (R.sg k) shr3, ⟨0, 0, 0⟩⟩ m) ⟨R.tm (R.sg k) shr3, ⟨0, 0, 0⟩⟩ ⟨W x, W y, W z⟩ ⟨W u, W v, W w⟩ ⟨w11 i, w11 j, w11 l⟩) :
    CodeSem Try.prog 0 (seqDrop 5 (wcB Try.prog)) (wc5 x y z u v w i j l k m) .ret (wcR true) := by
  have e5 := wcE5 R x y z u v w i j l k m
  have e6 := wcE6 R x y z u v w i j l k m
  rw [hk] at e6
  simp only [gd] at e6
  have e19 := wcE19 R (Q19 R m (R.bm ⟨R.tm (R.sg k) shr3, ⟨0, 0, 0⟩⟩ m) ⟨R.tm (R.sg k) shr3, ⟨0, 0, 0⟩⟩ ⟨W x, W y, W z⟩ ⟨W u, W v, W w⟩ ⟨w11 i, w11 j, w11 l⟩) i j l m (R.bm ⟨R.tm (R.sg k) shr3, ⟨0, 0, 0⟩⟩ m)
  replace e5 := e5.trans (orr_ok (fun c hc => by simp only [List.mem_cons, List.not_mem_nil, or_false] at hc; rw [hc, h.k]; rfl))
  replace e19 := e19.trans (orr_ok h.a)
  have hb := h.b
  generalize R.bm ⟨R.tm (R.sg k) shr3, ⟨0, 0, 0⟩⟩ m = n at e6 e19 hb
  have e20 := wcE20 R m n
  have e26 := wcE26 R ⟨R.N m, R.K m, R.E m (R.P m), R.vd (R.P m), R.ve (R.P m), R.h m, R.K m, R.h n, R.K n, R.sB (R.G m), R.K (R.G m)⟩ m (R.G m) (R.P m) (R.T m (R.P m))
  replace e26 := e26.trans (orr_ok hb)
  have e27 := wcE27 R m (R.G m) (R.P m) (R.T m (R.P m)) (R.E m (R.P m)) (R.vd (R.P m)) (R.ve (R.P m)) (R.h m)
  subst hR
  refine stmt_rule wcHas.2.2.1 (end_rule' (C := Cz Rc Try.prog) okz (f := 17) (B := 0) (inStm wcIn 5) e5) ?_
  refine seg_rule (C := Cz Rc Try.prog) okz (f := 17) (B := 0) (k := 13) (inDrop wcIn 6) e6 ?_
  rw [seqDrop_drop]
  refine stmt_rule wcHas.2.2.2.1 (end_rule' (C := Cz Rc Try.prog) okz (f := 17) (B := 0) (inStm wcIn 19) e19) ?_
  refine seg_rule (C := Cz Rc Try.prog) okz (f := 17) (B := 0) (k := 6) (inDrop wcIn 20) e20 ?_
  rw [seqDrop_drop]
  refine stmt_rule wcHas.2.2.2.2.1 (end_rule' (C := Cz Rc Try.prog) okz (f := 17) (B := 0) (inStm wcIn 26) e26) ?_
  rcases h.c with ⟨h1, h2, h3⟩ | ⟨h1, h2⟩
  · rw [h1] at e27
    simp only [h2, h3] at e27
    exact stmt_out wcHas.2.2.2.2.2.1 (end_rule' (C := Cz Rc Try.prog) okz (f := 17) (B := 0) (inStm wcIn 27) e27) (by simp)
  · rw [h1] at e27
    have e28 := wcE28 Rc m (Rc.G m) (Rc.T m (Rc.P m)) (Rc.E m (Rc.P m)) (Rc.vd (Rc.P m)) (Rc.ve (Rc.P m)) (Rc.h m)
    replace e28 := e28.trans (orr_ok h2)
    have e29 := wcE29 Rc m (Rc.G m) (Rc.h m)
    have e29' := e29.trans (anr_ok h.d)
    rw [h.e] at e29'
    refine stmt_rule wcHas.2.2.2.2.2.1 (end_rule' (C := Cz Rc Try.prog) okz (f := 17) (B := 0) (inStm wcIn 27) e27) ?_
    refine stmt_rule wcHas.2.2.2.2.2.2 (end_rule' (C := Cz Rc Try.prog) okz (f := 17) (B := 0) (inStm wcIn 28) e28) ?_
    exact end_rule' (C := Cz Rc Try.prog) okz (f := 17) (B := 0) (inDrop wcIn 29) e29'
set_option maxRecDepth 100000 in
theorem wcS (b0 b1 b2 b3 b4 b5 b6 b7 b8 x y z u v w i j l k : Int) (hk : (decide (0 ≤ k) && decide (k < 256)) = true)
    (hz : (w12M b0 b1 b2 b3 b4 b5 b6 b7 b8).det = 0 → (gramG (w12M b0 b1 b2 b3 b4 b5 b6 b7 b8)).mck ≠ 0)
    (hg : (w12M b0 b1 b2 b3 b4 b5 b6 b7 b8).det ≠ 0 → Good Rc (gramG (w12M b0 b1 b2 b3 b4 b5 b6 b7 b8)) (Rc.bm ⟨Rc.tm (Rc.sg k) shr3, ⟨0, 0, 0⟩⟩ (gramG (w12M b0 b1 b2 b3 b4 b5 b6 b7 b8))) ⟨Rc.tm (Rc.sg k) shr3, ⟨0, 0, 0⟩⟩ ⟨W x, W y, W z⟩ ⟨W u, W v, W w⟩ ⟨w11 i, w11 j, w11 l⟩) :
    PlainSem Try.prog 17 [a9 b0 b1 b2 b3 b4 b5 b6 b7 b8, a3 x y z, a3 u v w, u3 i j l, vu8 k] (.bool true) := by
  have e3 := (wcE3 Rc x y z u v w i j l k (Rc.mt (w12M b0 b1 b2 b3 b4 b5 b6 b7 b8)) (Rc.mb (w12M b0 b1 b2 b3 b4 b5 b6 b7 b8)) (Rc.D ⟨2, 2, 2, 0, 0, 0⟩) (Rc.K ⟨2, 2, 2, 0, 0, 0⟩)).trans (orr_ok (fun c hc => by
    simp only [List.mem_cons, List.not_mem_nil, or_false] at hc
    rcases hc with rfl | rfl
    · rw [two_ok.1]; rfl
    · rw [two_ok.2]; rfl))
  have e4 := wcE4 Rc x y z u v w i j l k (Rc.mt (w12M b0 b1 b2 b3 b4 b5 b6 b7 b8)) (Rc.mb (w12M b0 b1 b2 b3 b4 b5 b6 b7 b8))
  have body : CodeSem Try.prog 0 (wcB Try.prog) (enter Try.f17 [a9 b0 b1 b2 b3 b4 b5 b6 b7 b8, a3 x y z, a3 u v w, u3 i j l, vu8 k] []) .ret (wcR true) := by
    refine seg_rule (C := Cz Rc Try.prog) okz (f := 17) (B := 0) (k := 3) wcIn (wcE0 Rc b0 b1 b2 b3 b4 b5 b6 b7 b8 x y z u v w i j l k) ?_
    refine stmt_rule wcHas.1 (end_rule' (C := Cz Rc Try.prog) okz (f := 17) (B := 0) (inStm wcIn 3) e3) ?_
    by_cases hd : (w12M b0 b1 b2 b3 b4 b5 b6 b7 b8).det = 0
    · have hb : Rc.mb (w12M b0 b1 b2 b3 b4 b5 b6 b7 b8) = false := by
        show ((w12M b0 b1 b2 b3 b4 b5 b6 b7 b8).det != 0) = false
        rw [hd]; rfl
      have hm : (Rc.K (Rc.mt (w12M b0 b1 b2 b3 b4 b5 b6 b7 b8)) != 0) = true := (bif_beq (hz hd)).2
      rw [hb, hm] at e4
      simp only [Bool.not_false] at e4
      rw [hb]
      exact stmt_out wcHas.2.1 (end_rule' (C := Cz Rc Try.prog) okz (f := 17) (B := 0) (inStm wcIn 4) e4) (by simp)
    · have hb : Rc.mb (w12M b0 b1 b2 b3 b4 b5 b6 b7 b8) = true := (bif_beq hd).2
      rw [hb] at e4
      simp only [Bool.not_true] at e4
      rw [hb]
      refine stmt_rule wcHas.2.1 (end_rule' (C := Cz Rc Try.prog) okz (f := 17) (B := 0) (inStm wcIn 4) e4) ?_
      exact wcTail rfl hk (hg hd)
  have hm : MemSem Try.prog 17 [a9 b0 b1 b2 b3 b4 b5 b6 b7 b8, a3 x y z, a3 u v w, u3 i j l, vu8 k] [] (.bool true) [] := body_mem (f := 17) Try.func17 wcB_eq (by kernel_rfl) body (wcRet true)
  exact hm.plain (by intro x hx; simp only [List.mem_cons, List.not_mem_nil, or_false] at hx; rcases hx with rfl | rfl | rfl | rfl | rfl <;> rfl) rfl
end Go.Proofs.Ytofblakbfmjgkaa
