/- The program's four functions, together. -/
import Derived.Test.YtmjbclinlojboaaPgTo
import Derived.Test.YtmjbclinlojboaaPgSame
import Derived.Test.YtmjbclinlojboaaPgPut
import Derived.Test.YtmjbclinlojboaaPgGet
