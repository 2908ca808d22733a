/- the texts that SpecHolds stands on -/
import Derived.Test.YtbncofgbpffmkaaGreatDoorJc31
import Derived.Test.YtbncofgbpffmkaaGreatDoorJc35
import Derived.Test.YtbncofgbpffmkaaGreatDoorJc36
import Derived.Test.YtbncofgbpffmkaaGreatDoorJc38
import Derived.Test.YtbncofgbpffmkaaGreatDoorJc39
import Derived.Test.YtbncofgbpffmkaaGreatDoorJc21
import Derived.Test.YtbncofgbpffmkaaGreatDoorJc40
