/-
  What is told in one context, told in another. Nothing here is trusted.
-/
import Derived.Test.YtjpfnfckpgilgaaHTAbF
import Derived.Test.YtjpfnfckpgilgaaHTPc
namespace Go.Proofs.Ytjpfnfckpgilgaa
open Go Vx
def Cx.fetch (C D : Cx) (f : FuncId) : Cx := C.addM f (lendF fun args m => D.tbm f args m)
theorem Cx.fetch_ok {C D : Cx} (hC : CxOk C) (hD : CxOk D) (h : D.P = C.P) (f : FuncId) : CxOk (Cx.fetch C D f) :=
  Cx.addM_ok hC fun _ _ _ _ _ ha hr => by rw [← h]; exact lendF_ok (fun args m ans v m' h hr => hD.tbm f args m ans v m' h hr) ha hr
/-- Rotations and Centring beside the rest. -/
def Cat (P : Program) : Cx := Cx.fetch (Cx.fetch (Cas P) (Cpb P) 106) (Cpb P) 33
theorem okat : CxOk (Cat Try.prog) := Cx.fetch_ok (Cx.fetch_ok okas okpb rfl 106) okpb rfl 33
end Go.Proofs.Ytjpfnfckpgilgaa
