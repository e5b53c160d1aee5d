/- The order of the place 9 on the curve is prime. Nothing of the program. -/
import Derived.Test.YtnopjjkijedpeaaPrimeP
namespace Go.Proofs.Ytnopjjkijedpeaa
namespace PrimeP
open Primes

theorem p1224481 : IsPrime 1224481 := prime_of_trial _ 1200 (by omega) (by omega) (by decide +kernel)
theorem p531581 : IsPrime 531581 := prime_of_trial _ 800 (by omega) (by omega) (by decide +kernel)
theorem p50 : IsPrime 1257559732178653 := of_two (by decide +kernel) p1224481 p531581 (c1 := (by decide +kernel : cert 1257559732178653 1224481 1027014492 2 60 = true)) (c2 := (by decide +kernel : cert 1257559732178653 531581 2365697292 2 60 = true)) (by decide +kernel) (by decide +kernel)
theorem p62 : IsPrime 4434155615661930479 := of_one (by decide +kernel) p50 (by decide +kernel : cert 4434155615661930479 1257559732178653 3526 2 70 = true) (by decide +kernel)
theorem p87 : IsPrime 172054593956031949258510691 := of_one (by decide +kernel) p62 (by decide +kernel : cert 172054593956031949258510691 4434155615661930479 38802110 2 100 = true) (by decide +kernel)
theorem p134 : IsPrime 19757330305831588566944191468367130476339 := of_one (by decide +kernel) p87 (by decide +kernel : cert 19757330305831588566944191468367130476339 172054593956031949258510691 114831751082918 2 140 = true) (by decide +kernel)
theorem p138 : IsPrime 276602624281642239937218680557139826668747 := of_one (by decide +kernel) p134 (by decide +kernel : cert 276602624281642239937218680557139826668747 19757330305831588566944191468367130476339 14 2 150 = true) (by decide +kernel)
theorem prime_l : IsPrime 7237005577332262213973186563042994240857116359379907606001950938285454250989 := of_one (by decide +kernel) p138 (by decide +kernel : cert 7237005577332262213973186563042994240857116359379907606001950938285454250989 276602624281642239937218680557139826668747 26163907866482859529727157400808004 2 256 = true) (by decide +kernel)

end PrimeP
end Go.Proofs.Ytnopjjkijedpeaa
