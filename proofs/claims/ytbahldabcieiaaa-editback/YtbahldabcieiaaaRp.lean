/- This cut has no Same over bytes; no walk. -/
import Derived.Test.YtbahldabcieiaaaP
