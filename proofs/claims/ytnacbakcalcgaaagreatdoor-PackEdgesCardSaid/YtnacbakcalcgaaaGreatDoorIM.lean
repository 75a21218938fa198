/- Texts of the claim. -/
import Derived.Test.YtnacbakcalcgaaaGreatDoorIH
import Derived.Test.YtnacbakcalcgaaaGreatDoorII
import Derived.Test.YtnacbakcalcgaaaGreatDoorIK
import Derived.Test.YtnacbakcalcgaaaGreatDoorIL
set_option linter.unusedVariables false
set_option linter.unusedSimpArgs false
set_option maxHeartbeats 200000
set_option maxRecDepth 100000
namespace Go.Proofs.YtnacbakcalcgaaaGreatDoor
open Go.RowKit Go.Lib Go.Sort
theorem packEdges_walk (n:Int) (neg:Bool) (more:Int) (w:World) (hn:-9223372036854775808≤n∧n≤9223372036854775807) (hm:-9223372036854775808≤more∧more≤9223372036854775807) (hU:UT w) (hT:DB w) :
    Calls Tryz.prog 9 #[.int .i64 n,.bool neg,.int .i64 more] w (BoolBelow true w):=by
  obtain ⟨k,hk⟩:∃ k:Nat,n % 70=(k:Int):=⟨(n % 70).toNat,by have:=Int.emod_nonneg n (show (70:Int) ≠ 0 by decide);omega⟩
  have hk70:k<70:=by have:=Int.emod_lt_of_pos n (show (0:Int)<70 by decide);omega
  have hj:more % 3=0∨more % 3=1∨more % 3=2:=by omega
  rcases hj with hj | hj | hj
  · cases neg with
    | true =>
      by_cases h:bitsN (2 ^ k - 1)≤63
      · exact packEdges_subNI n more k w hk hk70 hj hn hm h hU hT
      · exact packEdges_subNO n more k w hk hk70 hj hn hm h hU hT
    | false =>
      by_cases h:bitsN (2 ^ k - 1)≤64
      · exact packEdges_subPI n more k w hk hk70 hj hn hm h hU hT
      · exact packEdges_subPO n more k w hk hk70 hj hn hm h hU hT
  · exact packEdges_zero n neg more k w hk hk70 hj hn hm hU hT
  · cases neg with
    | true =>
      by_cases h:bitsN (2 ^ k+1)≤63
      · exact packEdges_addNI n more k w hk hk70 hj hn hm h hU hT
      · exact packEdges_addNO n more k w hk hk70 hj hn hm h hU hT
    | false =>
      by_cases h:bitsN (2 ^ k+1)≤64
      · exact packEdges_addPI n more k w hk hk70 hj hn hm h hU hT
      · exact packEdges_addPO n more k w hk hk70 hj hn hm h hU hT
end Go.Proofs.YtnacbakcalcgaaaGreatDoor
