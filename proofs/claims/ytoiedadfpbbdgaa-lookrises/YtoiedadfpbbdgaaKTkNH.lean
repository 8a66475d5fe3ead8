/- Texts laid as one. -/
import Derived.Test.YtoiedadfpbbdgaaKTkEG
import Derived.Test.YtoiedadfpbbdgaaKRfM
/- Plain mathematics of a reader's next: texts, marks, texts of their own; all tokens as the reader gives them. -/
set_option linter.unusedVariables false
set_option linter.unusedSimpArgs false
namespace Go.Proofs.Ytoiedadfpbbdgaa
open Go.RowKit
end Go.Proofs.Ytoiedadfpbbdgaa
/- The contracts of a reader's plain, mark, own, and of ownSize. -/
set_option linter.unusedVariables false
set_option linter.unusedSimpArgs false
namespace Go.Proofs.Ytoiedadfpbbdgaa
open Go.RowKit
end Go.Proofs.Ytoiedadfpbbdgaa
