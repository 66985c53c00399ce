/- A script that comes in. -/
import Derived.Test.YtmdiggbbgcjcnaaDoorSdR
namespace Go.Proofs.YtmdiggbbgcjcnaaDoor
open Go.RowKit

/-- a call: its kind, its place, its term -/
structure Sx where
  kind : Int
  at' : Int
  t : Bs
def sxc (x : Sx) : Array Value := #[.int .i64 x.kind, .int .i64 x.at', St x.t]
/-- a row of calls lies there -/
def Scr (w : World) (v : Value) (L : List Sx) : Prop :=
  ∃ a c, v = .slice a L.length c ∧ (0 < L.length → ∃ g o, a = some ⟨g, o, none⟩ ∧ g < w.heap.size ∧ ∀ i (h : i < L.length) j u, (sxc L[i])[j]? = some u → w.cell? ⟨g, o + i * 3 + j, none⟩ = some u)
end Go.Proofs.YtmdiggbbgcjcnaaDoor
