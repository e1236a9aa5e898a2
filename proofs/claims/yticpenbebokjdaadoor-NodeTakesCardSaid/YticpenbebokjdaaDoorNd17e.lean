/- ref10.May, whole. Conditions: at most a million cells. -/
import Derived.Test.YticpenbebokjdaaDoorNd17b
import Derived.Test.YticpenbebokjdaaDoorNd17c
import Derived.Test.YticpenbebokjdaaDoorNd17d
namespace Go.Proofs.YticpenbebokjdaaDoor
open Go.RowKit Go
theorem rmay_any (kind first : Int) (A : Option Addr) (l : List Cl) (n c : Nat) (data : ByteArray) (w : World) (hC : Cls w w.heap.size A l) (hn : n = l.length) (hm : n ≤ 1000000) :
    Calls Tryd.prog 17 #[.agg #[.int .u8 kind, .int .i64 first, .slice A n c, .string data]] w fun e w' => e = .returned (.bool (mayB kind first l data)) ∧ Below w.heap.size w w' := by
  by_cases h1 : kind = 1
  · exact rmay_1 kind first A l n c data w hC hn hm h1
  by_cases h2 : kind = 2
  · exact rmay_2 kind first A l n c data w hC hn hm h2
  by_cases h3 : kind = 3
  · by_cases hd : data.size = 0
    · exact rmay_3e kind first A l n c data w hC hn hm h3 hd
    · exact rmay_3 kind first A l n c data w hC hn hm h3 (by omega)
  by_cases h4 : kind = 4
  · exact rmay_4 kind first A l n c data w hC hn hm h4
  · exact rmay_5 kind first A l n c data w hC hn hm h1 h2 h3 h4
end Go.Proofs.YticpenbebokjdaaDoor
