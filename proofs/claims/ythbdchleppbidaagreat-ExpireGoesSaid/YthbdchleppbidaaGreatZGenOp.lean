/- Gen and GenOpC together. -/
import Derived.Test.YthbdchleppbidaaGreatMA
import Derived.Test.YthbdchleppbidaaGreatMZ
