import Derived.Test.YtghijhehahfnpaaDoorLbM
/- What rows lay that call the library's case. -/
namespace Go.Vf.S
open Go Go.Vf Go.Proofs Go.Proofs.YtghijhehahfnpaaDoor Go.RowKit Go.ChangeShapes
def laidLr : List (String × DataW Unit) := [("unicode/utf8.acceptRanges", Rows.laid_unicode_utf8_acceptRanges), ("unicode.CaseRanges", Rows.laid_unicode_CaseRanges), ("unicode/utf8.first", Rows.laid_unicode_utf8_first)]
end Go.Vf.S
