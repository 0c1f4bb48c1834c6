/- Package mem, by its contracts: gathered. -/
import Derived.Test.YtnnelghngekbpaaDoorDevNew
import Derived.Test.YtnnelghngekbpaaDoorDevTags
import Derived.Test.YtnnelghngekbpaaDoorDevStore
import Derived.Test.YtnnelghngekbpaaDoorDevLoad
import Derived.Test.YtnnelghngekbpaaDoorDevSame
import Derived.Test.YtnnelghngekbpaaDoorDevCapS
namespace Go.Proofs.YtnnelghngekbpaaDoor
set_option linter.unusedVariables false
set_option linter.unusedSimpArgs false
end Go.Proofs.YtnnelghngekbpaaDoor
