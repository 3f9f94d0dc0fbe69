/- This cut has no mine: nothing here. -/
import Derived.Test.YthaiodajfmbeaaaGreatHi
namespace Go.Proofs.YthaiodajfmbeaaaGreat
end Go.Proofs.YthaiodajfmbeaaaGreat
