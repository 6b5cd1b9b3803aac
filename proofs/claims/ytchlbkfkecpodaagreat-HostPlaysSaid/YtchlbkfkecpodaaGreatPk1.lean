/- The Reader's calls, each by a contract: what is left, or that it is wrong. -/
import Derived.Test.YtchlbkfkecpodaaGreatPkW
import Derived.WalkSpells
import Derived.WalkLawsBesides
import Derived.Lib.Hide
import Derived.Deep.QuietTactic
import Derived.BigQuiet
import Derived.Laws.BitsAllLaws
namespace Go.Proofs.YtchlbkfkecpodaaGreat
open Go.RowKit
namespace Pk

end Pk
end Go.Proofs.YtchlbkfkecpodaaGreat
