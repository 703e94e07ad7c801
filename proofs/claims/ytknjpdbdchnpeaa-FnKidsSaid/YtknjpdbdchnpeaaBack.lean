/- What is written is read again (BackP), beside Write. -/
import Derived.Test.YtknjpdbdchnpeaaWrite
import Derived.Test.YtknjpdbdchnpeaaBackP
