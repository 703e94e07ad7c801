/- The parts of a type (KidsQ), beside Texts. -/
import Derived.Test.YtfogjomebcponaaDoorTexts
import Derived.Test.YtfogjomebcponaaDoorKidsQ
