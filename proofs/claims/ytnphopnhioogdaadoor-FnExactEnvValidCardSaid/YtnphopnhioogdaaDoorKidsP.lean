/- The parts of a type (KidsQ), beside Texts. -/
import Derived.Test.YtnphopnhioogdaaDoorTexts
import Derived.Test.YtnphopnhioogdaaDoorKidsQ
