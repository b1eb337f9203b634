/- The walk of DescShort. · The walk of DescTurn. · The walk of DescBack. -/
import Derived.Test.YtdnnfoacpjgloaaDd
set_option maxRecDepth 100000
namespace Go.Proofs.Ytdnnfoacpjgloaa
open Go.RowKit
set_option linter.unusedVariables false

end Go.Proofs.Ytdnnfoacpjgloaa

namespace Go.Proofs.Ytdnnfoacpjgloaa
open Go.RowKit
set_option linter.unusedVariables false

end Go.Proofs.Ytdnnfoacpjgloaa

namespace Go.Proofs.Ytdnnfoacpjgloaa
open Go.RowKit
set_option linter.unusedVariables false

end Go.Proofs.Ytdnnfoacpjgloaa
