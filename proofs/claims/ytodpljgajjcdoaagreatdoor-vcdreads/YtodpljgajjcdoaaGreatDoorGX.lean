/- Layers 1 and 2 of the program, joined: what each part says stands ahead of it. -/
import Derived.Lib.Repeat
import Derived.Test.YtodpljgajjcdoaaGreatDoorProg
/- The library as this program names it. -/
