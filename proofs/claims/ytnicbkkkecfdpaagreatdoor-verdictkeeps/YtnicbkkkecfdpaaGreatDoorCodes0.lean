/-
  A row that stays: it lies in Codes here.
-/
import Derived.Test.YtnicbkkkecfdpaaGreatDoorMem
import Derived.Test.YtnicbkkkecfdpaaGreatDoorCodes
