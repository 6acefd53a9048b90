import Derived.Test.YtlbcnmcfljaijaaGreatProg

