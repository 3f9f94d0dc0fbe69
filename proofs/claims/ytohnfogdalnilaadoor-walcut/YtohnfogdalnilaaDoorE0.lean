/- Stands in another text's place: what it held lies in Oz; no walk. -/
import Derived.Test.YtohnfogdalnilaaDoorOz
