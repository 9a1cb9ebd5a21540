/- The program's chapter 7, all of it. -/
import Derived.Test.YtohibgdgncbcoaaImplInOrder
import Derived.Test.YtohibgdgncbcoaaImplClose
import Derived.Test.YtohibgdgncbcoaaImplRanks
