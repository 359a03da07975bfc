/- The law's contract and how its arguments lie. Condition: none. -/
import Derived.Test.YtolebodpcefcfaaIpJ
import Derived.Test.YtolebodpcefcfaaIpQ
namespace Go.Proofs.Ytolebodpcefcfaa.ip
end Go.Proofs.Ytolebodpcefcfaa.ip
