/- (for a seat with head) ascii's small functions and Lower together. -/
import Derived.Test.YtpifbgefkbhopaaGreatDoorRows
import Derived.Test.YtpifbgefkbhopaaGreatDoorZAscPlain
import Derived.Test.YtpifbgefkbhopaaGreatDoorZMAscN
import Derived.Test.YtpifbgefkbhopaaGreatDoorZMBasP
import Derived.Test.YtpifbgefkbhopaaGreatDoorZMDigP
import Derived.WalkKit
import Derived.WalkSpells
import Derived.WalkLawsBesides
import Derived.Lib.Hide
import Derived.Laws.IdiomStrings


