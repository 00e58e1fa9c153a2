/-
  WholeCells run, over an arbitrary record of functions. Nothing here is trusted.
-/
import Derived.Test.YtofblakbfmjgkaaKaj
import Derived.Test.YtofblakbfmjgkaaHTDu
import Derived.Test.YtofblakbfmjgkaaHTWcH
namespace Go.Proofs.Ytofblakbfmjgkaa
open Go Vx
structure RC where
  (K : G6 → Int) (D : G6 → Int) (d f : G6 → V3 → V3 → Int) (s : G6 → V3 → Q2) (e : G6 → V3 → Int) (ap : M3 → V3 → V3) (ae : M3 → V3 → Int) (sG : G6 → G6) (sP : G6 → M3) (sB : G6 → Bool) (G : G6 → G6) (P : G6 → M3) (N : G6 → Int) (h : G6 → Int) (T : G6 → M3 → G6) (E : G6 → M3 → Int) (tm : M3 → M3 → M3) (bm : O3 → G6 → G6) (be : O3 → G6 → Int) (bi : O3 → V3 → V3) (bie : O3 → V3 → Int) (vd ve : M3 → Int)
  (sg : Int → M3) (mt : M3 → G6) (mb : M3 → Bool) (ns : G6 → Int → Bool)
def Cz0 (_ : RC) (P : Program) : Cx := Cwd2 P
def Fz_20 (R : RC) : List Int → Option Value
  | [a0, a1, a2, a3, a4, a5] => some (vI (R.K ⟨a0, a1, a2, a3, a4, a5⟩))
  | _ => none
def Cz1 (R : RC) (P : Program) : Cx := (Cz0 R P).add 20 [some 6] (Fz_20 R)
def Fz_22 (R : RC) : List Int → Option Value
  | [a0, a1, a2, a3, a4, a5] => some (p2 (vI (R.D ⟨a0, a1, a2, a3, a4, a5⟩)) (vI (R.K ⟨a0, a1, a2, a3, a4, a5⟩)))
  | _ => none
def Cz2 (R : RC) (P : Program) : Cx := (Cz1 R P).add 22 [some 6] (Fz_22 R)
def Fz_24 (R : RC) : List Int → Option Value
  | [a0, a1, a2, a3, a4, a5, b0, b1, b2, c0, c1, c2] => some (p2 (vI (R.d ⟨a0, a1, a2, a3, a4, a5⟩ ⟨b0, b1, b2⟩ ⟨c0, c1, c2⟩)) (vI (R.f ⟨a0, a1, a2, a3, a4, a5⟩ ⟨b0, b1, b2⟩ ⟨c0, c1, c2⟩)))
  | _ => none
def Cz3 (R : RC) (P : Program) : Cx := (Cz2 R P).add 24 [some 6, some 3, some 3] (Fz_24 R)
def Fz_26 (R : RC) : List Int → Option Value
  | [a0, a1, a2, a3, a4, a5, b0, b1, b2] => some (p2 (R.s ⟨a0, a1, a2, a3, a4, a5⟩ ⟨b0, b1, b2⟩).v (vI (R.e ⟨a0, a1, a2, a3, a4, a5⟩ ⟨b0, b1, b2⟩)))
  | _ => none
def Cz4 (R : RC) (P : Program) : Cx := (Cz3 R P).add 26 [some 6, some 3] (Fz_26 R)
def Fz_36 (R : RC) : List Int → Option Value
  | [a0, a1, a2, a3, a4, a5, a6, a7, a8, b0, b1, b2] => some (p2 (R.ap ⟨a0, a1, a2, a3, a4, a5, a6, a7, a8⟩ ⟨b0, b1, b2⟩).v (vI (R.ae ⟨a0, a1, a2, a3, a4, a5, a6, a7, a8⟩ ⟨b0, b1, b2⟩)))
  | _ => none
def Cz5 (R : RC) (P : Program) : Cx := (Cz4 R P).add 36 [some 9, some 3] (Fz_36 R)
def Fz_37 (R : RC) : List Int → Option Value
  | [a0, a1, a2, a3, a4, a5] => some (p4v (R.sG ⟨a0, a1, a2, a3, a4, a5⟩).v (R.sP ⟨a0, a1, a2, a3, a4, a5⟩).v (.bool (R.sB ⟨a0, a1, a2, a3, a4, a5⟩)) (vI (R.K ⟨a0, a1, a2, a3, a4, a5⟩)))
  | _ => none
def Cz6 (R : RC) (P : Program) : Cx := (Cz5 R P).add 37 [some 6] (Fz_37 R)
def Fz_40 (R : RC) : List Int → Option Value
  | [a0, a1, a2, a3, a4, a5] => some (p4v (R.G ⟨a0, a1, a2, a3, a4, a5⟩).v (R.P ⟨a0, a1, a2, a3, a4, a5⟩).v (vI (R.N ⟨a0, a1, a2, a3, a4, a5⟩)) (vI (R.K ⟨a0, a1, a2, a3, a4, a5⟩)))
  | _ => none
def Cz7 (R : RC) (P : Program) : Cx := (Cz6 R P).add 40 [some 6] (Fz_40 R)
def Fz_42 (R : RC) : List Int → Option Value
  | [a0, a1, a2, a3, a4, a5] => some (p2 (vI (R.h ⟨a0, a1, a2, a3, a4, a5⟩)) (vI (R.K ⟨a0, a1, a2, a3, a4, a5⟩)))
  | _ => none
def Cz8 (R : RC) (P : Program) : Cx := (Cz7 R P).add 42 [some 6] (Fz_42 R)
def Fz_44 (R : RC) : List Int → Option Value
  | [a0, a1, a2, a3, a4, a5, b0, b1, b2, b3, b4, b5, b6, b7, b8] => some (pGE (R.T ⟨a0, a1, a2, a3, a4, a5⟩ ⟨b0, b1, b2, b3, b4, b5, b6, b7, b8⟩) (R.E ⟨a0, a1, a2, a3, a4, a5⟩ ⟨b0, b1, b2, b3, b4, b5, b6, b7, b8⟩))
  | _ => none
def Cz9 (R : RC) (P : Program) : Cx := (Cz8 R P).add 44 [some 6, some 9] (Fz_44 R)
def Fz_52 (R : RC) : List Int → Option Value
  | [a0, a1, a2, a3, a4, a5, a6, a7, a8, b0, b1, b2, b3, b4, b5, b6, b7, b8] => some ((R.tm ⟨a0, a1, a2, a3, a4, a5, a6, a7, a8⟩ ⟨b0, b1, b2, b3, b4, b5, b6, b7, b8⟩).v)
  | _ => none
def Cz10 (R : RC) (P : Program) : Cx := (Cz9 R P).add 52 [some 9, some 9] (Fz_52 R)
def Fz_54 (R : RC) : List Int → Option Value
  | [a0, a1, a2, a3, a4, a5, a6, a7, a8, a9, a10, a11, b0, b1, b2, b3, b4, b5] => some (pGE (R.bm ⟨⟨a0, a1, a2, a3, a4, a5, a6, a7, a8⟩, ⟨a9, a10, a11⟩⟩ ⟨b0, b1, b2, b3, b4, b5⟩) (R.be ⟨⟨a0, a1, a2, a3, a4, a5, a6, a7, a8⟩, ⟨a9, a10, a11⟩⟩ ⟨b0, b1, b2, b3, b4, b5⟩))
  | _ => none
def Cz11 (R : RC) (P : Program) : Cx := (Cz10 R P).add 54 [some 12, some 6] (Fz_54 R)
def Fz_55 (R : RC) : List Int → Option Value
  | [a0, a1, a2, a3, a4, a5, a6, a7, a8, a9, a10, a11, b0, b1, b2] => some (p2 (R.bi ⟨⟨a0, a1, a2, a3, a4, a5, a6, a7, a8⟩, ⟨a9, a10, a11⟩⟩ ⟨b0, b1, b2⟩).v (vI (R.bie ⟨⟨a0, a1, a2, a3, a4, a5, a6, a7, a8⟩, ⟨a9, a10, a11⟩⟩ ⟨b0, b1, b2⟩)))
  | _ => none
def Cz12 (R : RC) (P : Program) : Cx := (Cz11 R P).add 55 [some 12, some 3] (Fz_55 R)
def Fz_57 (R : RC) : List Int → Option Value
  | [a0, a1, a2, a3, a4, a5, a6, a7, a8] => some (p2 (vI (R.vd ⟨a0, a1, a2, a3, a4, a5, a6, a7, a8⟩)) (vI (R.ve ⟨a0, a1, a2, a3, a4, a5, a6, a7, a8⟩)))
  | _ => none
def Cz13 (R : RC) (P : Program) : Cx := (Cz12 R P).add 57 [some 9] (Fz_57 R)
def Fz_58 (R : RC) : List Int → Option Value
  | [a0, a1, a2, a3, a4, a5, a6, a7, a8] => some (vI (R.ve ⟨a0, a1, a2, a3, a4, a5, a6, a7, a8⟩))
  | _ => none
def Cz14 (R : RC) (P : Program) : Cx := (Cz13 R P).add 58 [some 9] (Fz_58 R)
def Fz_53 (R : RC) : List Value → Option (Bool × Value)
  | [.int .u8 k] => some (decide (0 ≤ k) && decide (k < 256), (R.sg k).v)
  | _ => none
def Fz_51 (R : RC) : List Value → Option (Bool × Value)
  | [.agg ⟨[.int .i8 a, .int .i8 b, .int .i8 c, .int .i8 d, .int .i8 e, .int .i8 f, .int .i8 g, .int .i8 h, .int .i8 i]⟩] => some (true, p2 (R.mt (w12M a b c d e f g h i)).v (.bool (R.mb (w12M a b c d e f g h i))))
  | _ => none
def Fz_59 (R : RC) : List Int → Option (Bool × Value)
  | [a0, a1, a2, a3, a4, a5, b] => some (R.ns ⟨a0, a1, a2, a3, a4, a5⟩ b, .bool true)
  | _ => none
def Cz15 (R : RC) (P : Program) : Cx := (Cz14 R P).addR 53 (Fz_53 R)
def Cz16 (R : RC) (P : Program) : Cx := (Cz15 R P).addR 51 (Fz_51 R)
def Cz17 (R : RC) (P : Program) : Cx := (Cz16 R P).addD 59 [some 6, none] (Fz_59 R)
def Cz (R : RC) (P : Program) : Cx := Cz17 R P
def bT : Option Value := some (.bool true)
def bF : Option Value := some (.bool false)
def ors : List Bool → Option Value → Option Value
  | [], k => k
  | c :: l, k => match c with
    | true => bF
    | false => ors l k
def ands : List Bool → Option Value → Option Value
  | [], k => k
  | c :: l, k => match c with
    | true => ands l k
    | false => bF
def tWcE (R : RC) (m g : G6) : Option Value :=
  ands [decide (g.bc ≤ 0), decide (g.ac ≤ 0), decide (g.ab ≤ 0), decide (W (W (W (0 - g.aa) - g.ab) - g.ac) ≤ 0), decide (W (W (W (0 - g.ab) - g.bb) - g.bc) ≤ 0), decide (W (W (W (0 - g.ac) - g.bc) - g.cc) ≤ 0), decide (R.h m ≤ g.aa), decide (R.h m ≤ g.bb), decide (R.h m ≤ g.cc)] (gd (R.ns m (R.h m)) bT)
def tWcD (R : RC) (m n : G6) : Option Value :=
  ors [R.K m != 0, R.K m != 0, R.K n != 0, R.K (R.G m) != 0, R.h m != R.h n, R.sB (R.G m), decide (R.N m < 0)]
    (match R.ve (R.P m) != 0 with
    | true => match R.E m (R.P m) == 4 with
      | true => some (.bool (R.ve (R.P m) == 4))
      | false => bF
    | false => ors [R.E m (R.P m) != 0, R.ve (R.P m) != 0, !((R.T m (R.P m)).eqB (R.G m)), W (R.vd (R.P m) * R.vd (R.P m)) != 1] (tWcE R m (R.G m)))
def tWcC (R : RC) (m : G6) (c : O3) (u v h : V3) : Option Value :=
  ors [R.be c m != 0, R.ae c.r u != 0, R.ae c.r v != 0, R.f m u v != 0, R.f (R.bm c m) (R.ap c.r u) (R.ap c.r v) != 0, R.bie c h != 0, R.e m h != 0, R.e (R.bm c m) (R.bi c h) != 0, R.K m != 0, R.K (R.bm c m) != 0, R.d m u v != R.d (R.bm c m) (R.ap c.r u) (R.ap c.r v), !((R.s m h).eqB (R.s (R.bm c m) (R.bi c h))), R.D m != R.D (R.bm c m), ((R.s m h).num == 0) != eq3 h.x h.y h.z 0 0 0] (tWcD R m (R.bm c m))
def tWc (R : RC) (b : M3) (u v h : V3) (k : Int) : Option Value :=
  ors [R.K ⟨2, 2, 2, 0, 0, 0⟩ != 0, R.D ⟨2, 2, 2, 0, 0, 0⟩ != 8]
    (match !(R.mb b) with
    | true => some (.bool (R.K (R.mt b) != 0))
    | false => ors [R.K (R.mt b) != 0] (gd (decide (0 ≤ k) && decide (k < 256)) (tWcC R (R.mt b) ⟨R.tm (R.sg k) shr3, ⟨0, 0, 0⟩⟩ u v h)))
end Go.Proofs.Ytofblakbfmjgkaa
