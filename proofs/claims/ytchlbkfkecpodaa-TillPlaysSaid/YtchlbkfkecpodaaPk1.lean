/- The Reader's calls, each by a contract: what is left, or that it is wrong. -/
import Derived.Test.YtchlbkfkecpodaaPkW
import Derived.WalkSpells
import Derived.WalkLawsBesides
import Derived.Lib.Hide
import Derived.Deep.QuietTactic
import Derived.BigQuiet
import Derived.Laws.BitsAllLaws
namespace Go.Proofs.Ytchlbkfkecpodaa
open Go.RowKit
namespace Pk

end Pk
end Go.Proofs.Ytchlbkfkecpodaa
