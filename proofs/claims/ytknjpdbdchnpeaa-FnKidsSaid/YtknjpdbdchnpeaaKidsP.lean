/- The parts of a type (KidsQ), beside Texts. -/
import Derived.Test.YtknjpdbdchnpeaaTexts
import Derived.Test.YtknjpdbdchnpeaaKidsQ
