import Derived.Test.YtlbcnmcfljaijaaGreatProg
import Derived.Shelf.Strings.OnBuilder

