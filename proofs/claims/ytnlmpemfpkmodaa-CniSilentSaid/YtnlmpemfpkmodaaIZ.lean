/-
  What the functions of package cni answer. No condition.
-/
import Derived.Test.YtnlmpemfpkmodaaJI
namespace Go.Proofs.Ytnlmpemfpkmodaa
open Go.RowKit

theorem new12 : CniNewC := newP_any
theorem check12 : CniCheckC := chkCnP_any
theorem write12 : CniWriteC := pwriteCn_any
theorem beat12 : CniBeatC := pbeatCn_any
theorem ask12 : CniAskC := paskCn_any
theorem send12 : CniSendC := sendP_any
theorem deliver12 : CniDeliverC := pdeliverCn_any
theorem round12 : CniRoundC := proundCn_any
theorem alive12 : CniAliveC := aliveP_any
theorem same12 : CniSameC := sameP_any
theorem fresh12 : CniFreshC := freshP_any
end Go.Proofs.Ytnlmpemfpkmodaa
