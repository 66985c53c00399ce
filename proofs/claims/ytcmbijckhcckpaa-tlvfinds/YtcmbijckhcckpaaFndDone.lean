/- TlvFinds: of any records (of at most 3000 bytes) and any types (at most 100 of them) what is found, and whether one must be known, is as the document says: for every input, with no condition beside the statement's own. -/
import Derived.Test.YtcmbijckhcckpaaFndProof
import Derived.Test.YtcmbijckhcckpaaSrt
namespace Go.Proofs.Ytcmbijckhcckpaa

theorem finds_holds : Rows.TlvFindsSaid := finds_of_sort sortU
#print axioms finds_holds
end Go.Proofs.Ytcmbijckhcckpaa
