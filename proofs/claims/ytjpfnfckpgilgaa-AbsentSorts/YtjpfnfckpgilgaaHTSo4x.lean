/-
  absent.Sort: its loop. Nothing here is trusted.
-/
import Derived.Test.YtjpfnfckpgilgaaHTCi1
import Derived.Test.YtjpfnfckpgilgaaKak
namespace Go.Proofs.Ytjpfnfckpgilgaa
open Go Vx Go.RowKit
def soB (P : Program) : Code := bodyOf P 26
theorem soB_eq : Try.f26.body = some (soB Try.prog) := by kernel_rfl
def soH00 (own own2 : Bool) (n q : Nat) (xs : List O3) (Y : List V3)  (i : Int) : St := stOf 47 [(0, .slice (some ⟨0, 0, some 0⟩) n 12), (8, .slice none 0 0), (9, .slice none 0 0), (23, .slice (some ⟨1, 0, some 0⟩) q 3), (24, vI q), (25, vI i)] [.rows own true 12 n (opRow xs), .rows own2 true 3 q (vcRow Y), .no, .no]
def soZ00 (own own2 : Bool) (n q : Nat) (xs : List O3) (Y : List V3)  : St := stOf 47 [(8, .slice none 0 0), (9, .slice none 0 0)] [.rows own true 12 n (opRow xs), .rows own2 true 3 q (vcRow Y), .no, .no]
def soH01 (own own2 : Bool) (n q : Nat) (xs : List O3) (Y : List V3) (l : Nat) (rm : Nat → List Value) (i : Int) : St := stOf 47 [(0, .slice (some ⟨0, 0, some 0⟩) n 12), (8, .slice none 0 0), (9, .slice (some ⟨3, 0, some 0⟩) l 3), (23, .slice (some ⟨1, 0, some 0⟩) q 3), (24, vI q), (25, vI i)] [.rows own true 12 n (opRow xs), .rows own2 true 3 q (vcRow Y), .no, .rows true true 3 l rm]
def soZ01 (own own2 : Bool) (n q : Nat) (xs : List O3) (Y : List V3) (l : Nat) (rm : Nat → List Value) : St := stOf 47 [(8, .slice none 0 0), (9, .slice (some ⟨3, 0, some 0⟩) l 3)] [.rows own true 12 n (opRow xs), .rows own2 true 3 q (vcRow Y), .no, .rows true true 3 l rm]
def soH10 (own own2 : Bool) (n q : Nat) (xs : List O3) (Y : List V3) (k : Nat) (rp : Nat → List Value) (i : Int) : St := stOf 47 [(0, .slice (some ⟨0, 0, some 0⟩) n 12), (8, .slice (some ⟨2, 0, some 0⟩) k 3), (9, .slice none 0 0), (23, .slice (some ⟨1, 0, some 0⟩) q 3), (24, vI q), (25, vI i)] [.rows own true 12 n (opRow xs), .rows own2 true 3 q (vcRow Y), .rows true true 3 k rp, .no]
def soZ10 (own own2 : Bool) (n q : Nat) (xs : List O3) (Y : List V3) (k : Nat) (rp : Nat → List Value) : St := stOf 47 [(8, .slice (some ⟨2, 0, some 0⟩) k 3), (9, .slice none 0 0)] [.rows own true 12 n (opRow xs), .rows own2 true 3 q (vcRow Y), .rows true true 3 k rp, .no]
def soH11 (own own2 : Bool) (n q : Nat) (xs : List O3) (Y : List V3) (k : Nat) (rp : Nat → List Value) (l : Nat) (rm : Nat → List Value) (i : Int) : St := stOf 47 [(0, .slice (some ⟨0, 0, some 0⟩) n 12), (8, .slice (some ⟨2, 0, some 0⟩) k 3), (9, .slice (some ⟨3, 0, some 0⟩) l 3), (23, .slice (some ⟨1, 0, some 0⟩) q 3), (24, vI q), (25, vI i)] [.rows own true 12 n (opRow xs), .rows own2 true 3 q (vcRow Y), .rows true true 3 k rp, .rows true true 3 l rm]
def soZ11 (own own2 : Bool) (n q : Nat) (xs : List O3) (Y : List V3) (k : Nat) (rp : Nat → List Value) (l : Nat) (rm : Nat → List Value) : St := stOf 47 [(8, .slice (some ⟨2, 0, some 0⟩) k 3), (9, .slice (some ⟨3, 0, some 0⟩) l 3)] [.rows own true 12 n (opRow xs), .rows own2 true 3 q (vcRow Y), .rows true true 3 k rp, .rows true true 3 l rm]
theorem soFor : isFor 0 (stmt 3 (soB Try.prog)) = true := by kernel_rfl
theorem soHas : hasStmt 3 (soB Try.prog) = true := by kernel_rfl
theorem soR00 (own own2 : Bool) (n q : Nat) (xs : List O3) (Y : List V3)  (i : Nat) : roundR ((Ckx Try.prog).into 26 2) 60 (forBody (stmt 3 (soB Try.prog))) [0, 8, 9, 23, 24, 25] [8, 9] [.fix 0, .fix 1, .slot 8, .slot 9] [.fix 0, .fix 1, .slot 8, .slot 9] (soH00 own own2 n q xs Y  (i : Int)) =
    (match decide ((i : Int) < (q : Int)) with
    | true => gd (boundsI (i : Int) q) (gd (lk n) (gd (ghT lenB n (opRow xs) (atV Y i)) (match rsb (opsOf n (opRow xs)) (atV Y i) with
      | true => some (.normal, soH01 own own2 n q xs Y 1 (chop 3 0 (atV Y i).cells) (W ((i : Int) + 1)))
      | false => some (.normal, soH10 own own2 n q xs Y 1 (chop 3 0 (atV Y i).cells) (W ((i : Int) + 1))))))
    | false => some (.exit 0, soZ00 own own2 n q xs Y )) := by kernel_rfl
theorem soR01 (own own2 : Bool) (n q : Nat) (xs : List O3) (Y : List V3) (l : Nat) (rm : Nat → List Value) (i : Nat) : roundR ((Ckx Try.prog).into 26 2) 60 (forBody (stmt 3 (soB Try.prog))) [0, 8, 9, 23, 24, 25] [8, 9] [.fix 0, .fix 1, .slot 8, .slot 9] [.fix 0, .fix 1, .slot 8, .slot 9] (soH01 own own2 n q xs Y l rm (i : Int)) =
    (match decide ((i : Int) < (q : Int)) with
    | true => gd (boundsI (i : Int) q) (gd (lk n) (gd (ghT lenB n (opRow xs) (atV Y i)) (match rsb (opsOf n (opRow xs)) (atV Y i) with
      | true => gd (rT3 l) (some (.normal, soH01 own own2 n q xs Y (l + 1) (catR l rm (chop 3 0 (atV Y i).cells)) (W ((i : Int) + 1))))
      | false => some (.normal, soH11 own own2 n q xs Y 1 (chop 3 0 (atV Y i).cells) l rm (W ((i : Int) + 1))))))
    | false => some (.exit 0, soZ01 own own2 n q xs Y l rm)) := by kernel_rfl
theorem soR10 (own own2 : Bool) (n q : Nat) (xs : List O3) (Y : List V3) (k : Nat) (rp : Nat → List Value) (i : Nat) : roundR ((Ckx Try.prog).into 26 2) 60 (forBody (stmt 3 (soB Try.prog))) [0, 8, 9, 23, 24, 25] [8, 9] [.fix 0, .fix 1, .slot 8, .slot 9] [.fix 0, .fix 1, .slot 8, .slot 9] (soH10 own own2 n q xs Y k rp (i : Int)) =
    (match decide ((i : Int) < (q : Int)) with
    | true => gd (boundsI (i : Int) q) (gd (lk n) (gd (ghT lenB n (opRow xs) (atV Y i)) (match rsb (opsOf n (opRow xs)) (atV Y i) with
      | true => some (.normal, soH11 own own2 n q xs Y k rp 1 (chop 3 0 (atV Y i).cells) (W ((i : Int) + 1)))
      | false => gd (rT3 k) (some (.normal, soH10 own own2 n q xs Y (k + 1) (catR k rp (chop 3 0 (atV Y i).cells)) (W ((i : Int) + 1)))))))
    | false => some (.exit 0, soZ10 own own2 n q xs Y k rp)) := by kernel_rfl
theorem soR11 (own own2 : Bool) (n q : Nat) (xs : List O3) (Y : List V3) (k : Nat) (rp : Nat → List Value) (l : Nat) (rm : Nat → List Value) (i : Nat) : roundR ((Ckx Try.prog).into 26 2) 60 (forBody (stmt 3 (soB Try.prog))) [0, 8, 9, 23, 24, 25] [8, 9] [.fix 0, .fix 1, .slot 8, .slot 9] [.fix 0, .fix 1, .slot 8, .slot 9] (soH11 own own2 n q xs Y k rp l rm (i : Int)) =
    (match decide ((i : Int) < (q : Int)) with
    | true => gd (boundsI (i : Int) q) (gd (lk n) (gd (ghT lenB n (opRow xs) (atV Y i)) (match rsb (opsOf n (opRow xs)) (atV Y i) with
      | true => gd (rT3 l) (some (.normal, soH11 own own2 n q xs Y k rp (l + 1) (catR l rm (chop 3 0 (atV Y i).cells)) (W ((i : Int) + 1))))
      | false => gd (rT3 k) (some (.normal, soH11 own own2 n q xs Y (k + 1) (catR k rp (chop 3 0 (atV Y i).cells)) l rm (W ((i : Int) + 1)))))))
    | false => some (.exit 0, soZ11 own own2 n q xs Y k rp l rm)) := by kernel_rfl
def soH (own own2 : Bool) (n q : Nat) (xs : List O3) (Y : List V3) (P M : List V3) (i : Int) : St := match P, M with
  | [], [] => soH00 own own2 n q xs Y  i
  | [], _ :: _ => soH01 own own2 n q xs Y M.length (vcRow M) i
  | _ :: _, [] => soH10 own own2 n q xs Y P.length (vcRow P) i
  | _ :: _, _ :: _ => soH11 own own2 n q xs Y P.length (vcRow P) M.length (vcRow M) i
def soZ (own own2 : Bool) (n q : Nat) (xs : List O3) (Y : List V3) (P M : List V3) : St := match P, M with
  | [], [] => soZ00 own own2 n q xs Y 
  | [], _ :: _ => soZ01 own own2 n q xs Y M.length (vcRow M)
  | _ :: _, [] => soZ10 own own2 n q xs Y P.length (vcRow P)
  | _ :: _, _ :: _ => soZ11 own own2 n q xs Y P.length (vcRow P) M.length (vcRow M)
end Go.Proofs.Ytjpfnfckpgilgaa
